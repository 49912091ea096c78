import Derived.Test.YtfcgdjgfdbcddaaZA
import Derived.Test.YtfcgdjgfdbcddaaZC
import Derived.Test.YtfcgdjgfdbcddaaZB
import Derived.Lib.BitFns
/-
 POLYNOMIALS IN MEMORY: 256 cells of 16 bits.
-/
namespace Go.Proofs.Ytfcgdjgfdbcddaa
open Go.RowKit
set_option maxRecDepth 100000
def pc (p : Nat → Nat) : List Value := (List.range 256).map fun i => .int .u16 (p i : Int)
theorem pc_length (p : Nat → Nat) : (pc p).length = 256 := by simp [pc]
theorem pc_get (p : Nat → Nat) {k : Nat} (h : k < 256) : (pc p)[k]? = some (.int .u16 (p k : Int)) := by
 unfold pc
 rw [List.getElem?_map, List.getElem?_range h]
 rfl
theorem pc_of {p r : Nat → Nat} (h : ∀ i, i < 256 → p i = r i) : pc p = pc r := by
 unfold pc
 exact List.map_congr_left fun i hi => by rw [h i (List.mem_range.1 hi)]
theorem pc_inj {p r : Nat → Nat} (h : pc p = pc r) (i : Nat) (hi : i < 256) : p i = r i := by
 have h1 := pc_get p hi
 rw [h, pc_get r hi] at h1
 simp only [Option.some.injEq, Value.int.injEq, true_and] at h1
 omega
theorem pc_iff {p r : Nat → Nat} : pc p = pc r ↔ ∀ i, i < 256 → p i = r i := ⟨fun h i hi => pc_inj h i hi, pc_of⟩
def upd (p : Nat → Nat) (k v : Nat) (i : Nat) : Nat := if i = k then v else p i
theorem pc_set (p : Nat → Nat) (k v : Nat) : (pc p).set k (.int .u16 (v : Int)) = pc (upd p k v) := by
 apply List.ext_getElem?
 intro i
 rw [List.getElem?_set]
 by_cases hi : i < 256
 ·rw [pc_get _ hi]
  by_cases h : k = i
  ·subst h
   rw [if_pos rfl, if_pos (by rw [pc_length]; exact hi), pc_get _ hi]
   unfold upd
   rw [if_pos rfl]
  ·rw [if_neg h, pc_get _ hi]
   unfold upd
   rw [if_neg (fun q => h q.symm)]
 ·rw [List.getElem?_eq_none (by rw [pc_length]; omega)]
  by_cases h : k = i
  ·rw [if_pos h, if_neg (by rw [pc_length]; omega), List.getElem?_eq_none (by rw [pc_length]; omega)]
  ·rw [if_neg h, List.getElem?_eq_none (by rw [pc_length]; omega)]
theorem pc_one (p : Nat → Nat) : ∀ u ∈ pc p, u.oneCell' = true := by
 intro u hu
 unfold pc at hu
 obtain ⟨i, _, rfl⟩ := List.mem_map.1 hu
 rfl
theorem pc_zero : pc (fun _ => 0) = List.replicate 256 (.int .u16 0) := rfl
/-- the numbers of a list -/
def nthN (zs : List Int) (i : Nat) : Nat := (zs.getD i 0).toNat
theorem pc_list (zs : List Int) (hl : zs.length = 256) (h : ∀ z ∈ zs, (0 : Int) ≤ z) : zs.map (Value.int .u16) = pc (nthN zs) := by
 apply List.ext_getElem?
 intro i
 by_cases hi : i < 256
 ·rw [pc_get _ hi, List.getElem?_map, List.getElem?_eq_getElem (by omega)]
  unfold nthN
  rw [List.getD_eq_getElem?_getD, List.getElem?_eq_getElem (by omega)]
  have h1 := h zs[i] (List.getElem_mem _)
  simp
  omega
 ·rw [List.getElem?_eq_none (by simp; omega), List.getElem?_eq_none (by rw [pc_length]; omega)]
end Go.Proofs.Ytfcgdjgfdbcddaa

/-
 OPERATIONS on polynomials in memory.
-/
namespace Go.Proofs.Ytfcgdjgfdbcddaa
open Go.RowKit
set_option maxRecDepth 100000
def polyV (p : Nat → Nat) : Value := .agg (pc p).toArray
/-- the answer is a polynomial, and what was in memory stays -/
def PolyIs (w : World) (p : Nat → Nat) (e : Ending) (w' : World) : Prop := e = .returned (polyV p) ∧ Below w.heap.size w w'
theorem bel1 (w : World) (o : Obj) : Below w.heap.size w (w.alloc o) := Below.alloc (Below.refl _ _) (Nat.le_refl _) _
theorem info_poly : (Try.prog.info? 24).map (·.size) = some 256 := by kernel_rfl
theorem size_poly (p : Nat → Nat) : some 256 = some (pc p).length := by rw [pc_length]
theorem zero_poly (W : World) : (zeroValue 24).run Try.prog W = .ok (.agg (pc fun _ => 0).toArray) W := by kernel_rfl
section
variable {ops : Array Oper} {rest : List Oper} {o : Oper} {a : Act} {w : World} {Q : Exit → Act → World → Prop} {x y : Operand} {op : Oper}
theorem wl_allocP (hgd : o.guard = none) (ho : o.op = .alloc 24) (h : wpList Try.prog ops Q rest (a.put o.dst (.pointer (some ⟨w.heap.size, 0, none⟩))) (w.alloc (.cells (pc fun _ => 0).toArray 24))) : wpList Try.prog ops Q (o :: rest) a w := by
 refine wl_valueW (.pointer (some ⟨w.heap.size, 0, none⟩)) (w.alloc (.cells (pc fun _ => 0).toArray 24)) hgd ?_ h
 have hz := zero_poly w
 unfold execOp
 simp only [ho]
 generalize pc (fun _ => 0) = z at *
 go_simp
theorem at_poly {g k : Nat} (hk : k < 256) (ho : op.op = .indexAddr 24 x y) (hx : a.eval x = .pointer (some ⟨g, 0, none⟩)) (hy : a.eval y = .int .i64 (k : Int)) : (execOp a.eval op).run Try.prog w = .ok (.value (.pointer (some ⟨g, k, none⟩))) w := by
 have h1 : (k : Int) < 256 := by omega
 have h2 : (0 : Int) ≤ (k : Int) := by omega
 unfold execOp
 simp only [ho, hx, hy]
 go_simp
theorem load_u16 {q : Addr} {n : Nat} (ho : op.op = .load 22 x) (hc : w.cell? q = some (.int .u16 (n : Int))) (hx : a.eval x = .pointer (some q)) : (execOp a.eval op).run Try.prog w = .ok (.value (.int .u16 (n : Int))) w := by
 unfold execOp
 simp only [ho, hx]
 go_simp
theorem rem_u16 {n r : Nat} (h : r = n % 3329) (hn : n < 65536) (ho : op.op = .binOp .rem 22 x (.const (.int .u16 3329)) 22) (hx : a.eval x = .int .u16 (n : Int)) : (execOp a.eval op).run Try.prog w = .ok (.value (.int .u16 (r : Int))) w := by
 have hc : a.eval (.const (.int .u16 3329)) = .int .u16 3329 := rfl
 have e : (n : Int).tmod 3329 = (r : Int) := by rw [Int.tmod_eq_emod_of_nonneg (by omega)]; omega
 have e2 : (n : Int) % 3329 = (r : Int) := by omega
 have hw : IntKind.u16.wrap (r : Int) = (r : Int) := by rw [IntKind.wrap_u16]; omega
 have hm : (r : Int) % 65536 = (r : Int) := by omega
 clear h
 unfold execOp
 simp only [ho, hx, hc]
 go_simp
theorem conv_ui16 {n : Nat} (hn : n < 65536) (ho : op.op = .convert 22 3 x) (hx : a.eval x = .int .u16 (n : Int)) : (execOp a.eval op).run Try.prog w = .ok (.value (.int .i64 (n : Int))) w := by
 have hw : IntKind.i64.wrap (n : Int) = (n : Int) := by rw [IntKind.wrap_i64]; omega
 unfold execOp
 simp only [ho, hx]
 go_simp
theorem conv_iu16 {n : Nat} (hn : n < 65536) (ho : op.op = .convert 3 22 x) (hx : a.eval x = .int .i64 (n : Int)) : (execOp a.eval op).run Try.prog w = .ok (.value (.int .u16 (n : Int))) w := by
 have hw : IntKind.u16.wrap (n : Int) = (n : Int) := by rw [IntKind.wrap_u16]; omega
 have hm : (n : Int) % 65536 = (n : Int) := by omega
 unfold execOp
 simp only [ho, hx]
 go_simp
theorem add_ii {i j k : Nat} (h : k = i + j ∧ k ≤ 1000000000000) (ho : op.op = .binOp .add 3 x y 3) (hx : a.eval x = .int .i64 (i : Int)) (hy : a.eval y = .int .i64 (j : Int)) : (execOp a.eval op).run Try.prog w = .ok (.value (.int .i64 (k : Int))) w := by
 have hw : IntKind.i64.wrap ((i : Int) + (j : Int)) = (k : Int) := by rw [IntKind.wrap_i64]; omega
 clear h
 unfold execOp
 simp only [ho, hx, hy]
 go_simp
theorem sub_ii {i j k : Nat} (h : i = k + j ∧ i ≤ 1000000000000) (ho : op.op = .binOp .sub 3 x y 3) (hx : a.eval x = .int .i64 (i : Int)) (hy : a.eval y = .int .i64 (j : Int)) : (execOp a.eval op).run Try.prog w = .ok (.value (.int .i64 (k : Int))) w := by
 have hw : IntKind.i64.wrap ((i : Int) - (j : Int)) = (k : Int) := by rw [IntKind.wrap_i64]; omega
 clear h
 unfold execOp
 simp only [ho, hx, hy]
 go_simp
theorem mul_iin {i j k : Nat} (h : k = i * j) (hk : k ≤ 1000000000000) (ho : op.op = .binOp .mul 3 x y 3) (hx : a.eval x = .int .i64 (i : Int)) (hy : a.eval y = .int .i64 (j : Int)) : (execOp a.eval op).run Try.prog w = .ok (.value (.int .i64 (k : Int))) w := by
 have he : (i : Int) * (j : Int) = (k : Int) := by rw [h, Int.natCast_mul]
 have hw : IntKind.i64.wrap (k : Int) = (k : Int) := by rw [IntKind.wrap_i64]; omega
 clear h
 unfold execOp
 simp only [ho, hx, hy]
 go_simp
theorem rem_iq {n r : Nat} (h : r = n % 3329) (hn : n ≤ 1000000000000) (ho : op.op = .binOp .rem 3 x (.const (.int .i64 3329)) 3) (hx : a.eval x = .int .i64 (n : Int)) : (execOp a.eval op).run Try.prog w = .ok (.value (.int .i64 (r : Int))) w := by
 have hc : a.eval (.const (.int .i64 3329)) = .int .i64 3329 := rfl
 have e : (n : Int).tmod 3329 = (r : Int) := by rw [Int.tmod_eq_emod_of_nonneg (by omega)]; omega
 have e2 : (n : Int) % 3329 = (r : Int) := by omega
 have hw : IntKind.i64.wrap (r : Int) = (r : Int) := by rw [IntKind.wrap_i64]; omega
 clear h
 unfold execOp
 simp only [ho, hx, hc]
 go_simp
end
end Go.Proofs.Ytfcgdjgfdbcddaa

/-
 THE DOCUMENT'S OWN Reduce, Add, Sub.
-/
namespace Go.Proofs.Ytfcgdjgfdbcddaa
open Go.RowKit
set_option maxRecDepth 100000
/-- the first k numbers of r, the others of p -/
def half (r p : Nat → Nat) (k i : Nat) : Nat := if i < k then r i else p i
theorem half_zero (r p : Nat → Nat) : pc (half r p 0) = pc p := pc_of fun i _ => if_neg (by omega)
theorem half_all (r p : Nat → Nat) : pc (half r p 256) = pc r := pc_of fun _ h => if_pos h
theorem half_next (r p : Nat → Nat) (k : Nat) : pc (upd (half r p k) k (r k)) = pc (half r p (k + 1)) := pc_of fun i _ => by
 unfold upd half
 by_cases h : i = k
 ·rw [if_pos h, if_pos (by omega), h]
 ·rw [if_neg h]
  by_cases h2 : i < k
  ·rw [if_pos h2, if_pos (by omega)]
  ·rw [if_neg h2, if_neg (by omega)]
theorem half_now (r p : Nat → Nat) (k : Nat) : half r p k k = p k := if_neg (by omega)
set_option maxHeartbeats 1000000 in
theorem refReduce_any (p : Nat → Nat) (hp : ∀ i, i < 256 → p i < 65536) (w : World) : Calls Try.prog 15 #[polyV p] w (PolyIs w (redN p)) := by
 unfold PolyIs polyV
 generalize hN : w.heap.size = N at *
 have HP := Shh.mk hp
 have HR : Shh (∀ i, redN p i = p i % 3329) := ⟨fun i => rd_same _⟩
 generalize redN p = r at *
 clear hp
 go_enter Try.func15, Try.ntmps15
 go_wp2_with (refine wl_allocP rfl rfl ?_)
 obtain ⟨W, hW⟩ : ∃ W, W = (w.alloc (.cells (pc p).toArray 24)).alloc (.cells (pc fun _ => 0).toArray 24) := ⟨_, rfl⟩
 have HW : Shh (Row W N 24 (pc p) ∧ Row W (N + 1) 24 (pc fun _ => 0) ∧ Below N w W) := by
  refine ⟨by rw [hW]; exact (Row.new_ hN.symm rfl).alloc _, by rw [hW]; exact Row.new_ (by rw [asz, hN]) rfl, ?_⟩
  rw [hW, ← hN]
  exact Below.chain (bel1 _ _) (bel1 _ _)
 try simp only [asz, hN]
 rw [← hW]
 clear hW
 go_wp2
 go_loopw [3, 4] (fun _ i wr => ∃ k : Nat, k ≤ 256 ∧ i = .int .i64 (k : Int) ∧ Shh (Row wr N 24 (pc (half r p k)) ∧ Row wr (N + 1) 24 (pc fun _ => 0) ∧ Below N w wr)) (fun _ i _ => 256 - (intOf i).toNat)
 case atStart => exact ⟨0, Nat.zero_le _, rfl, ⟨by rw [half_zero]; exact HW.out⟩⟩
 case round =>
  clear HW
  obtain ⟨k, hk, rfl, HI⟩ := hrel
  by_cases hlt : k < 256
  ·have hc := HI.out.1.cell k
   have hf := HI.out.1.free k
   rw [pc_get _ hlt, half_now] at hc
   have HS := Shh.mk (HI.out.1.set_ k (.int .u16 (r k : Int)))
   rw [pc_set, half_next] at HS
   have HE : Shh (r k = p k % 3329 ∧ p k < 65536) := ⟨HR.out k, HP.out k hlt⟩
   generalize r k = rk at *
   generalize p k = pk at *
   have hlt2 : (k : Int) < 256 := by omega
   go_wp2_with (first | refine wl_value (.pointer (some ⟨N, k, none⟩)) rfl (at_poly hlt rfl rfl rfl) ?_ | refine wl_value (.int .u16 (rk : Int)) rfl (rem_u16 HE.out.1 HE.out.2 rfl rfl) ?_)
   go_roundw
   case rel => exact ⟨k + 1, by omega, by go_num, ⟨HS.out, HI.out.2.1.other _ _ (by simp), HI.out.2.2.setCell (p := ⟨N, k, none⟩) (Nat.le_refl _) _⟩⟩
   case measure => simp [intOf]; omega
  ·have HL : Shh (pc (half r p k) = pc r) := ⟨by rw [show k = 256 by omega]; exact half_all _ _⟩
   rw [HL.out] at HI
   have hlt2 : ¬ (k : Int) < 256 := by omega
   clear HL HP HR
   go_wp2_with (first
    | refine wpList_load_any rfl 24 (.tmp 1) rfl N rfl 24 (pc r) (.array 256 22) HI.out.1 Try.underlying24 rfl (info_poly.trans (size_poly r)) ?_
    | refine wpList_store_any rfl 24 (.tmp 2) (.tmp 13) rfl (N + 1) rfl (pc r) rfl 24 _ HI.out.2.1 (info_poly.trans (size_poly r)) (by rw [pc_length, pc_length]) (pc_one r) ?_)
   intro w9 hr9 b9 _
   have hb9 := HI.out.2.2.trans (b9.under (Nat.le_of_lt HI.out.1.lt) (Nat.le_succ _))
   go_wp2
   exact ret_row Try.results15 rfl rfl hr9 Try.underlying24 rfl (info_poly.trans (size_poly r)) ⟨rfl, hb9⟩
set_option maxHeartbeats 1000000 in
theorem refAdd_any (p p2 : Nat → Nat) (hp : ∀ i, i < 256 → p i < 65536) (hp2 : ∀ i, i < 256 → p2 i < 65536) (w : World) : Calls Try.prog 17 #[polyV p, polyV p2] w (PolyIs w (addN p p2)) := by
 unfold PolyIs polyV
 generalize hN : w.heap.size = N at *
 have HP := Shh.mk (And.intro hp hp2)
 have HR : Shh (∀ i, addN p p2 i = (p i + p2 i) % 3329) := ⟨fun i => by unfold addN; rw [show ((p i : Int) + (p2 i : Int)) = ((p i + p2 i : Nat) : Int) by rw [Int.natCast_add]]; exact rd_same _⟩
 generalize addN p p2 = r at *
 clear hp hp2
 go_enter Try.func17, Try.ntmps17
 go_wp2_with (refine wl_allocP rfl rfl ?_)
 obtain ⟨W, hW⟩ : ∃ W, W = ((w.alloc (.cells (pc p).toArray 24)).alloc (.cells (pc p2).toArray 24)).alloc (.cells (pc fun _ => 0).toArray 24) := ⟨_, rfl⟩
 have HW : Shh (Row W N 24 (pc p) ∧ Row W (N + 1) 24 (pc p2) ∧ Row W (N + 2) 24 (pc fun _ => 0) ∧ Below N w W) := by
  refine ⟨by rw [hW]; exact ((Row.new_ hN.symm rfl).alloc _).alloc _, by rw [hW]; exact (Row.new_ (by rw [asz, hN]) rfl).alloc _, by rw [hW]; exact Row.new_ (by rw [asz, asz, hN]) rfl, ?_⟩
  rw [hW, ← hN]
  exact Below.chain (Below.chain (bel1 _ _) (bel1 _ _)) (bel1 _ _)
 try simp only [asz, hN]
 rw [← hW]
 clear hW
 go_wp2
 go_loopw [5, 6] (fun _ i wr => ∃ k : Nat, k ≤ 256 ∧ i = .int .i64 (k : Int) ∧ Shh (Row wr N 24 (pc (half r p k)) ∧ Row wr (N + 1) 24 (pc p2) ∧ Row wr (N + 2) 24 (pc fun _ => 0) ∧ Below N w wr)) (fun _ i _ => 256 - (intOf i).toNat)
 case atStart => exact ⟨0, Nat.zero_le _, rfl, ⟨by rw [half_zero]; exact HW.out⟩⟩
 case round =>
  clear HW
  obtain ⟨k, hk, rfl, HI⟩ := hrel
  by_cases hlt : k < 256
  ·have hlt2 : (k : Int) < 256 := by omega
   have HE : Shh (p k < 65536 ∧ p2 k < 65536 ∧ r k = (p k + p2 k) % 3329 ∧ r k < 65536 ∧ p k + p2 k ≤ 1000000000000) := ⟨by have h1 := HP.out.1 k hlt; have h2 := HP.out.2 k hlt; have h3 := HR.out k; exact ⟨h1, h2, h3, by rw [h3]; omega, by omega⟩⟩
   have HS := Shh.mk (HI.out.1.set_ k (.int .u16 (r k : Int)))
   rw [pc_set, half_next] at HS
   have HC : Shh (∀ V, V = wr.drew → V.cell? ⟨N, k, none⟩ = some (.int .u16 (p k : Int)) ∧ V.cell? ⟨N + 1, k, none⟩ = some (.int .u16 (p2 k : Int)) ∧ V.frozen? ⟨N, k, none⟩ = false) := ⟨fun V hV => by
    have h1 := HI.out.1.drew.cell k
    rw [pc_get _ hlt, half_now] at h1
    have h2 := HI.out.2.1.drew.cell k
    rw [pc_get _ hlt] at h2
    subst hV
    exact ⟨h1, h2, HI.out.1.drew.free k⟩⟩
   have HQ : Shh (∀ V, V = wr.drew → Row (V.setCell ⟨N, k, none⟩ (.int .u16 (r k : Int))) N 24 (pc (half r p (k + 1))) ∧ Row (V.setCell ⟨N, k, none⟩ (.int .u16 (r k : Int))) (N + 1) 24 (pc p2) ∧ Row (V.setCell ⟨N, k, none⟩ (.int .u16 (r k : Int))) (N + 2) 24 (pc fun _ => 0) ∧ Below N w (V.setCell ⟨N, k, none⟩ (.int .u16 (r k : Int)))) := ⟨fun V hV => by
    subst hV
    refine ⟨?_, HI.out.2.1.drew.other _ _ (by simp), HI.out.2.2.1.drew.other _ _ (by simp), HI.out.2.2.2.drew.setCell (p := ⟨N, k, none⟩) (Nat.le_refl _) _⟩
    have h := HI.out.1.drew.set_ k (.int .u16 (r k : Int))
    rw [pc_set, half_next] at h
    exact h⟩
   clear HS
   generalize r k = rk at *
   generalize p k = pk at *
   generalize p2 k = qk at *
   go_wp2
   refine wp_region_held_drew (S := fun _ => True) (by kernel_rfl) trivial (fun hS => ?_)
   clear hS
   obtain ⟨V, hV⟩ : ∃ V, V = World.drew wr := ⟨_, rfl⟩
   rw [← hV]
   have hC := HC.out V hV
   have HQ2 := Shh.mk (HQ.out V hV)
   clear HC HQ hV HI
   refine hdv0 0 9 (.int .i64 (k : Int)) (by rfl) (trivial) ?_
   refine hdv0 1 10 (.int .i64 (k : Int)) (by rfl) (trivial) ?_
   refine hdv 2 11 (.pointer (some ⟨N, k, none⟩)) (by rfl) (fun w hS => at_poly hlt rfl (by kernel_rfl) (by kernel_rfl)) (trivial) ?_
   refine hdv0 5 14 (.int .i64 (k : Int)) (by rfl) (trivial) ?_
   refine hdv 6 15 (.pointer (some ⟨N + 1, k, none⟩)) (by rfl) (fun w hS => at_poly hlt rfl (by kernel_rfl) (by kernel_rfl)) (trivial) ?_
   refine held_two 3 7 (by kernel_rfl) ?_ ?_
   ·refine step_value 3 _ _ (some 12) (.int .u16 (pk : Int)) V (by rfl) (by kernel_rfl) (load_u16 rfl hC.1 (by kernel_rfl)) (trivial) ?_
    simp only [Act.put, arr9, hd9, tl9]
    refine hdv 4 13 (.int .i64 (pk : Int)) (by rfl) (fun w hS => conv_ui16 HE.out.1 rfl (by kernel_rfl)) (trivial) ?_
    refine held_one 7 (by kernel_rfl) ?_
    refine step_value 7 _ _ (some 16) (.int .u16 (qk : Int)) V (by rfl) (by kernel_rfl) (load_u16 rfl hC.2.1 (by kernel_rfl)) (trivial) ?_
    simp only [Act.put, arr9, hd9, tl9]
    refine hdv 8 17 (.int .i64 (qk : Int)) (by rfl) (fun w hS => conv_ui16 HE.out.2.1 rfl (by kernel_rfl)) (trivial) ?_
    refine hdv 9 18 (.int .i64 ((pk + qk : Nat) : Int)) (by rfl) (fun w hS => add_ii ⟨rfl, HE.out.2.2.2.2⟩ rfl (by kernel_rfl) (by kernel_rfl)) (trivial) ?_
    refine hdv 10 19 (.int .i64 (rk : Int)) (by rfl) (fun w hS => rem_iq HE.out.2.2.1 (by have := HE.out; omega) rfl (by kernel_rfl)) (trivial) ?_
    refine hdv 11 20 (.int .u16 (rk : Int)) (by rfl) (fun w hS => conv_iu16 HE.out.2.2.2.1 rfl (by kernel_rfl)) (trivial) ?_
    refine hdv 12 21 (.pointer (some ⟨N, k, none⟩)) (by rfl) (fun w hS => at_poly hlt rfl (by kernel_rfl) (by kernel_rfl)) (trivial) ?_
    refine held_one 13 (by kernel_rfl) ?_
    refine step_store1 13 _ (by rfl) (by kernel_rfl) (V.setCell ⟨N, k, none⟩ (.int .u16 (rk : Int))) (by have hf := hC.2.2; have hc := hC.1; go_simp) ⟨trivial, ?_⟩
    refine wpAnyH_done (by kernel_rfl) ?_ _
    clear hC
    go_wp2
    go_roundw
    case rel => exact ⟨k + 1, by omega, by go_num, HQ2⟩
    case measure => simp [intOf]; omega
   ·refine step_value 7 _ _ (some 16) (.int .u16 (qk : Int)) V (by rfl) (by kernel_rfl) (load_u16 rfl hC.2.1 (by kernel_rfl)) (trivial) ?_
    simp only [Act.put, arr9, hd9, tl9]
    refine hdv 8 17 (.int .i64 (qk : Int)) (by rfl) (fun w hS => conv_ui16 HE.out.2.1 rfl (by kernel_rfl)) (trivial) ?_
    refine held_one 3 (by kernel_rfl) ?_
    refine step_value 3 _ _ (some 12) (.int .u16 (pk : Int)) V (by rfl) (by kernel_rfl) (load_u16 rfl hC.1 (by kernel_rfl)) (trivial) ?_
    simp only [Act.put, arr9, hd9, tl9]
    refine hdv 4 13 (.int .i64 (pk : Int)) (by rfl) (fun w hS => conv_ui16 HE.out.1 rfl (by kernel_rfl)) (trivial) ?_
    refine hdv 9 18 (.int .i64 ((pk + qk : Nat) : Int)) (by rfl) (fun w hS => add_ii ⟨rfl, HE.out.2.2.2.2⟩ rfl (by kernel_rfl) (by kernel_rfl)) (trivial) ?_
    refine hdv 10 19 (.int .i64 (rk : Int)) (by rfl) (fun w hS => rem_iq HE.out.2.2.1 (by have := HE.out; omega) rfl (by kernel_rfl)) (trivial) ?_
    refine hdv 11 20 (.int .u16 (rk : Int)) (by rfl) (fun w hS => conv_iu16 HE.out.2.2.2.1 rfl (by kernel_rfl)) (trivial) ?_
    refine hdv 12 21 (.pointer (some ⟨N, k, none⟩)) (by rfl) (fun w hS => at_poly hlt rfl (by kernel_rfl) (by kernel_rfl)) (trivial) ?_
    refine held_one 13 (by kernel_rfl) ?_
    refine step_store1 13 _ (by rfl) (by kernel_rfl) (V.setCell ⟨N, k, none⟩ (.int .u16 (rk : Int))) (by have hf := hC.2.2; have hc := hC.1; go_simp) ⟨trivial, ?_⟩
    refine wpAnyH_done (by kernel_rfl) ?_ _
    clear hC
    go_wp2
    go_roundw
    case rel => exact ⟨k + 1, by omega, by go_num, HQ2⟩
    case measure => simp [intOf]; omega
  ·have HL : Shh (pc (half r p k) = pc r) := ⟨by rw [show k = 256 by omega]; exact half_all _ _⟩
   rw [HL.out] at HI
   have hlt2 : ¬ (k : Int) < 256 := by omega
   clear HL HP HR
   go_wp2_with (first
    | refine wpList_load_any rfl 24 (.tmp 2) rfl N rfl 24 (pc r) (.array 256 22) HI.out.1 Try.underlying24 rfl (info_poly.trans (size_poly r)) ?_
    | refine wpList_store_any rfl 24 (.tmp 4) (.tmp 23) rfl (N + 2) rfl (pc r) rfl 24 _ HI.out.2.2.1 (info_poly.trans (size_poly r)) (by rw [pc_length, pc_length]) (pc_one r) ?_)
   intro w9 hr9 b9 _
   have hb9 := HI.out.2.2.2.trans (b9.under (Nat.le_of_lt HI.out.1.lt) (by omega))
   go_wp2
   exact ret_row Try.results17 rfl rfl hr9 Try.underlying24 rfl (info_poly.trans (size_poly r)) ⟨rfl, hb9⟩
set_option maxHeartbeats 1000000 in
theorem refSub_any (p p2 : Nat → Nat) (hp : ∀ i, i < 256 → p i < 65536) (hp2 : ∀ i, i < 256 → p2 i < 65536) (w : World) : Calls Try.prog 19 #[polyV p, polyV p2] w (PolyIs w (subN p p2)) := by
 unfold PolyIs polyV
 generalize hN : w.heap.size = N at *
 have HP := Shh.mk (And.intro hp hp2)
 have HR : Shh (∀ i, subN p p2 i = (p i % 3329 + 3329 - p2 i % 3329) % 3329) := ⟨fun i => by unfold subN rd; omega⟩
 generalize subN p p2 = r at *
 clear hp hp2
 go_enter Try.func19, Try.ntmps19
 go_wp2_with (refine wl_allocP rfl rfl ?_)
 obtain ⟨W, hW⟩ : ∃ W, W = ((w.alloc (.cells (pc p).toArray 24)).alloc (.cells (pc p2).toArray 24)).alloc (.cells (pc fun _ => 0).toArray 24) := ⟨_, rfl⟩
 have HW : Shh (Row W N 24 (pc p) ∧ Row W (N + 1) 24 (pc p2) ∧ Row W (N + 2) 24 (pc fun _ => 0) ∧ Below N w W) := by
  refine ⟨by rw [hW]; exact ((Row.new_ hN.symm rfl).alloc _).alloc _, by rw [hW]; exact (Row.new_ (by rw [asz, hN]) rfl).alloc _, by rw [hW]; exact Row.new_ (by rw [asz, asz, hN]) rfl, ?_⟩
  rw [hW, ← hN]
  exact Below.chain (Below.chain (bel1 _ _) (bel1 _ _)) (bel1 _ _)
 try simp only [asz, hN]
 rw [← hW]
 clear hW
 go_wp2
 go_loopw [5, 6] (fun _ i wr => ∃ k : Nat, k ≤ 256 ∧ i = .int .i64 (k : Int) ∧ Shh (Row wr N 24 (pc (half r p k)) ∧ Row wr (N + 1) 24 (pc p2) ∧ Row wr (N + 2) 24 (pc fun _ => 0) ∧ Below N w wr)) (fun _ i _ => 256 - (intOf i).toNat)
 case atStart => exact ⟨0, Nat.zero_le _, rfl, ⟨by rw [half_zero]; exact HW.out⟩⟩
 case round =>
  clear HW
  obtain ⟨k, hk, rfl, HI⟩ := hrel
  by_cases hlt : k < 256
  ·have hlt2 : (k : Int) < 256 := by omega
   have HE : Shh (p k < 65536 ∧ p2 k < 65536 ∧ r k = (p k % 3329 + 3329 - p2 k % 3329) % 3329 ∧ r k < 65536) := ⟨by have h1 := HP.out.1 k hlt; have h2 := HP.out.2 k hlt; have h3 := HR.out k; exact ⟨h1, h2, h3, by rw [h3]; omega⟩⟩
   have HS := Shh.mk (HI.out.1.set_ k (.int .u16 (r k : Int)))
   rw [pc_set, half_next] at HS
   have HC : Shh (∀ V, V = wr.drew → V.cell? ⟨N, k, none⟩ = some (.int .u16 (p k : Int)) ∧ V.cell? ⟨N + 1, k, none⟩ = some (.int .u16 (p2 k : Int)) ∧ V.frozen? ⟨N, k, none⟩ = false) := ⟨fun V hV => by
    have h1 := HI.out.1.drew.cell k
    rw [pc_get _ hlt, half_now] at h1
    have h2 := HI.out.2.1.drew.cell k
    rw [pc_get _ hlt] at h2
    subst hV
    exact ⟨h1, h2, HI.out.1.drew.free k⟩⟩
   have HQ : Shh (∀ V, V = wr.drew → Row (V.setCell ⟨N, k, none⟩ (.int .u16 (r k : Int))) N 24 (pc (half r p (k + 1))) ∧ Row (V.setCell ⟨N, k, none⟩ (.int .u16 (r k : Int))) (N + 1) 24 (pc p2) ∧ Row (V.setCell ⟨N, k, none⟩ (.int .u16 (r k : Int))) (N + 2) 24 (pc fun _ => 0) ∧ Below N w (V.setCell ⟨N, k, none⟩ (.int .u16 (r k : Int)))) := ⟨fun V hV => by
    subst hV
    refine ⟨?_, HI.out.2.1.drew.other _ _ (by simp), HI.out.2.2.1.drew.other _ _ (by simp), HI.out.2.2.2.drew.setCell (p := ⟨N, k, none⟩) (Nat.le_refl _) _⟩
    have h := HI.out.1.drew.set_ k (.int .u16 (r k : Int))
    rw [pc_set, half_next] at h
    exact h⟩
   clear HS
   generalize r k = rk at *
   generalize p k = pk at *
   generalize p2 k = qk at *
   go_wp2
   refine wp_region_held_drew (S := fun _ => True) (by kernel_rfl) trivial (fun hS => ?_)
   clear hS
   obtain ⟨V, hV⟩ : ∃ V, V = World.drew wr := ⟨_, rfl⟩
   rw [← hV]
   have hC := HC.out V hV
   have HQ2 := Shh.mk (HQ.out V hV)
   clear HC HQ hV HI
   refine hdv0 0 9 (.int .i64 (k : Int)) (by rfl) (trivial) ?_
   refine hdv0 1 10 (.int .i64 (k : Int)) (by rfl) (trivial) ?_
   refine hdv 2 11 (.pointer (some ⟨N, k, none⟩)) (by rfl) (fun w hS => at_poly hlt rfl (by kernel_rfl) (by kernel_rfl)) (trivial) ?_
   refine hdv0 7 16 (.int .i64 (k : Int)) (by rfl) (trivial) ?_
   refine hdv 8 17 (.pointer (some ⟨N + 1, k, none⟩)) (by rfl) (fun w hS => at_poly hlt rfl (by kernel_rfl) (by kernel_rfl)) (trivial) ?_
   refine held_two 3 9 (by kernel_rfl) ?_ ?_
   ·refine step_value 3 _ _ (some 12) (.int .u16 (pk : Int)) V (by rfl) (by kernel_rfl) (load_u16 rfl hC.1 (by kernel_rfl)) (trivial) ?_
    simp only [Act.put, arr9, hd9, tl9]
    refine hdv 4 13 (.int .u16 ((pk % 3329 : Nat) : Int)) (by rfl) (fun w hS => rem_u16 rfl HE.out.1 rfl (by kernel_rfl)) (trivial) ?_
    refine hdv 5 14 (.int .i64 ((pk % 3329 : Nat) : Int)) (by rfl) (fun w hS => conv_ui16 (by omega) rfl (by kernel_rfl)) (trivial) ?_
    refine hdv 6 15 (.int .i64 ((pk % 3329 + 3329 : Nat) : Int)) (by rfl) (fun w hS => add_ii ⟨rfl, by omega⟩ rfl (by kernel_rfl) (by kernel_rfl)) (trivial) ?_
    refine held_one 9 (by kernel_rfl) ?_
    refine step_value 9 _ _ (some 18) (.int .u16 (qk : Int)) V (by rfl) (by kernel_rfl) (load_u16 rfl hC.2.1 (by kernel_rfl)) (trivial) ?_
    simp only [Act.put, arr9, hd9, tl9]
    refine hdv 10 19 (.int .u16 ((qk % 3329 : Nat) : Int)) (by rfl) (fun w hS => rem_u16 rfl HE.out.2.1 rfl (by kernel_rfl)) (trivial) ?_
    refine hdv 11 20 (.int .i64 ((qk % 3329 : Nat) : Int)) (by rfl) (fun w hS => conv_ui16 (by omega) rfl (by kernel_rfl)) (trivial) ?_
    refine hdv 12 21 (.int .i64 ((pk % 3329 + 3329 - qk % 3329 : Nat) : Int)) (by rfl) (fun w hS => sub_ii (i := pk % 3329 + 3329) (j := qk % 3329) ⟨by omega, by omega⟩ rfl (by kernel_rfl) (by kernel_rfl)) (trivial) ?_
    refine hdv 13 22 (.int .i64 (rk : Int)) (by rfl) (fun w hS => rem_iq HE.out.2.2.1 (by omega) rfl (by kernel_rfl)) (trivial) ?_
    refine hdv 14 23 (.int .u16 (rk : Int)) (by rfl) (fun w hS => conv_iu16 HE.out.2.2.2 rfl (by kernel_rfl)) (trivial) ?_
    refine hdv 15 24 (.pointer (some ⟨N, k, none⟩)) (by rfl) (fun w hS => at_poly hlt rfl (by kernel_rfl) (by kernel_rfl)) (trivial) ?_
    refine held_one 16 (by kernel_rfl) ?_
    refine step_store1 16 _ (by rfl) (by kernel_rfl) (V.setCell ⟨N, k, none⟩ (.int .u16 (rk : Int))) (by have hf := hC.2.2; have hc := hC.1; go_simp) ⟨trivial, ?_⟩
    refine wpAnyH_done (by kernel_rfl) ?_ _
    clear hC
    go_wp2
    go_roundw
    case rel => exact ⟨k + 1, by omega, by go_num, HQ2⟩
    case measure => simp [intOf]; omega
   ·refine step_value 9 _ _ (some 18) (.int .u16 (qk : Int)) V (by rfl) (by kernel_rfl) (load_u16 rfl hC.2.1 (by kernel_rfl)) (trivial) ?_
    simp only [Act.put, arr9, hd9, tl9]
    refine hdv 10 19 (.int .u16 ((qk % 3329 : Nat) : Int)) (by rfl) (fun w hS => rem_u16 rfl HE.out.2.1 rfl (by kernel_rfl)) (trivial) ?_
    refine hdv 11 20 (.int .i64 ((qk % 3329 : Nat) : Int)) (by rfl) (fun w hS => conv_ui16 (by omega) rfl (by kernel_rfl)) (trivial) ?_
    refine held_one 3 (by kernel_rfl) ?_
    refine step_value 3 _ _ (some 12) (.int .u16 (pk : Int)) V (by rfl) (by kernel_rfl) (load_u16 rfl hC.1 (by kernel_rfl)) (trivial) ?_
    simp only [Act.put, arr9, hd9, tl9]
    refine hdv 4 13 (.int .u16 ((pk % 3329 : Nat) : Int)) (by rfl) (fun w hS => rem_u16 rfl HE.out.1 rfl (by kernel_rfl)) (trivial) ?_
    refine hdv 5 14 (.int .i64 ((pk % 3329 : Nat) : Int)) (by rfl) (fun w hS => conv_ui16 (by omega) rfl (by kernel_rfl)) (trivial) ?_
    refine hdv 6 15 (.int .i64 ((pk % 3329 + 3329 : Nat) : Int)) (by rfl) (fun w hS => add_ii ⟨rfl, by omega⟩ rfl (by kernel_rfl) (by kernel_rfl)) (trivial) ?_
    refine hdv 12 21 (.int .i64 ((pk % 3329 + 3329 - qk % 3329 : Nat) : Int)) (by rfl) (fun w hS => sub_ii (i := pk % 3329 + 3329) (j := qk % 3329) ⟨by omega, by omega⟩ rfl (by kernel_rfl) (by kernel_rfl)) (trivial) ?_
    refine hdv 13 22 (.int .i64 (rk : Int)) (by rfl) (fun w hS => rem_iq HE.out.2.2.1 (by omega) rfl (by kernel_rfl)) (trivial) ?_
    refine hdv 14 23 (.int .u16 (rk : Int)) (by rfl) (fun w hS => conv_iu16 HE.out.2.2.2 rfl (by kernel_rfl)) (trivial) ?_
    refine hdv 15 24 (.pointer (some ⟨N, k, none⟩)) (by rfl) (fun w hS => at_poly hlt rfl (by kernel_rfl) (by kernel_rfl)) (trivial) ?_
    refine held_one 16 (by kernel_rfl) ?_
    refine step_store1 16 _ (by rfl) (by kernel_rfl) (V.setCell ⟨N, k, none⟩ (.int .u16 (rk : Int))) (by have hf := hC.2.2; have hc := hC.1; go_simp) ⟨trivial, ?_⟩
    refine wpAnyH_done (by kernel_rfl) ?_ _
    clear hC
    go_wp2
    go_roundw
    case rel => exact ⟨k + 1, by omega, by go_num, HQ2⟩
    case measure => simp [intOf]; omega
  ·have HL : Shh (pc (half r p k) = pc r) := ⟨by rw [show k = 256 by omega]; exact half_all _ _⟩
   rw [HL.out] at HI
   have hlt2 : ¬ (k : Int) < 256 := by omega
   clear HL HP HR
   go_wp2_with (first
    | refine wpList_load_any rfl 24 (.tmp 2) rfl N rfl 24 (pc r) (.array 256 22) HI.out.1 Try.underlying24 rfl (info_poly.trans (size_poly r)) ?_
    | refine wpList_store_any rfl 24 (.tmp 4) (.tmp 26) rfl (N + 2) rfl (pc r) rfl 24 _ HI.out.2.2.1 (info_poly.trans (size_poly r)) (by rw [pc_length, pc_length]) (pc_one r) ?_)
   intro w9 hr9 b9 _
   have hb9 := HI.out.2.2.2.trans (b9.under (Nat.le_of_lt HI.out.1.lt) (by omega))
   go_wp2
   exact ret_row Try.results19 rfl rfl hr9 Try.underlying24 rfl (info_poly.trans (size_poly r)) ⟨rfl, hb9⟩
end Go.Proofs.Ytfcgdjgfdbcddaa

/-
 THE DOCUMENT'S OWN roots: rev, power, Root; width, Near.
-/
namespace Go.Proofs.Ytfcgdjgfdbcddaa
open Go.RowKit
set_option maxRecDepth 100000
section
variable {a : Act} {x y : Operand} {op : Oper} {w : World}
theorem rem_i2 {n r : Nat} (h : r = n % 2) (hn : n ≤ 1000000000000) (ho : op.op = .binOp .rem 3 x (.const (.int .i64 2)) 3) (hx : a.eval x = .int .i64 (n : Int)) : (execOp a.eval op).run Try.prog w = .ok (.value (.int .i64 (r : Int))) w := by
 have hc : a.eval (.const (.int .i64 2)) = .int .i64 2 := rfl
 have e : (n : Int).tmod 2 = (r : Int) := by rw [Int.tmod_eq_emod_of_nonneg (by omega)]; omega
 have e2 : (n : Int) % 2 = (r : Int) := by omega
 have hw : IntKind.i64.wrap (r : Int) = (r : Int) := by rw [IntKind.wrap_i64]; omega
 clear h
 unfold execOp
 simp only [ho, hx, hc]
 go_simp
theorem quo_i2 {n r : Nat} (h : r = n / 2) (hn : n ≤ 1000000000000) (ho : op.op = .binOp .quo 3 x (.const (.int .i64 2)) 3) (hx : a.eval x = .int .i64 (n : Int)) : (execOp a.eval op).run Try.prog w = .ok (.value (.int .i64 (r : Int))) w := by
 have hc : a.eval (.const (.int .i64 2)) = .int .i64 2 := rfl
 have e : (n : Int).tdiv 2 = (r : Int) := by rw [Int.tdiv_eq_ediv_of_nonneg (by omega)]; omega
 have e2 : (n : Int) / 2 = (r : Int) := by omega
 have hw : IntKind.i64.wrap (r : Int) = (r : Int) := by rw [IntKind.wrap_i64]; omega
 clear h
 unfold execOp
 simp only [ho, hx, hc]
 go_simp
theorem quo_ii {i j k : Nat} (h : k = i / j) (hj : 0 < j) (hi : i ≤ 1000000000000) (ho : op.op = .binOp .quo 3 x y 3) (hx : a.eval x = .int .i64 (i : Int)) (hy : a.eval y = .int .i64 (j : Int)) : (execOp a.eval op).run Try.prog w = .ok (.value (.int .i64 (k : Int))) w := by
 have hk : k ≤ i := by rw [h]; exact Nat.div_le_self _ _
 have e : (i : Int).tdiv (j : Int) = (k : Int) := by rw [Int.tdiv_eq_ediv_of_nonneg (by omega), h, Int.natCast_ediv]
 have hw : IntKind.i64.wrap (k : Int) = (k : Int) := by rw [IntKind.wrap_i64]; omega
 have hz : ¬ (j : Int) = 0 := by omega
 clear h
 generalize (i : Int) = ii at *
 generalize (j : Int) = jj at *
 generalize (k : Int) = kk at *
 unfold execOp
 simp only [ho, hx, hy]
 go_simp
end
/-- the first k digits from behind -/
def rvP (i : Nat) : Nat → Nat
 | 0 => 0
 | k + 1 => 2 * rvP i k + i / 2 ^ k % 2
theorem rvP_le (i : Nat) : ∀ k, rvP i k < 2 ^ k
 | 0 => Nat.one_pos
 | k + 1 => by
  show 2 * rvP i k + i / 2 ^ k % 2 < 2 ^ (k + 1)
  have := rvP_le i k
  rw [Nat.pow_succ]
  omega
theorem rvP_all (i : Nat) : rvP i 7 = rvN i := by
 show 2 * (2 * (2 * (2 * (2 * (2 * (2 * 0 + i / 1 % 2) + i / 2 % 2) + i / 4 % 2) + i / 8 % 2) + i / 16 % 2) + i / 32 % 2) + i / 64 % 2 = rvN i
 unfold rvN
 omega
/-- the answer is a number, and the world is as it was -/
def NumIs (w : World) (n : Nat) (e : Ending) (w' : World) : Prop := e = .returned (.int .i64 (n : Int)) ∧ w = w'
set_option maxHeartbeats 1000000 in
theorem rev_any (i : Nat) (hi : i < 128) (w : World) : Calls Try.prog 58 #[.int .i64 (i : Int)] w (NumIs w (rvN i)) := by
 unfold NumIs
 have HA := Shh.mk (rvP_all i)
 have HP := Shh.mk (rvP_le i)
 have HI := Shh.mk hi
 generalize rvN i = r at *
 go_enter Try.func58, Try.ntmps58
 go_wp2
 go_loopw [0, 3, 4] (fun t o c wr => ∃ k : Nat, k ≤ 7 ∧ c = .int .i64 (k : Int) ∧ t = .int .i64 ((i / 2 ^ k : Nat) : Int) ∧ o = .int .i64 (rvP i k : Int) ∧ wr = w) (fun _ _ c _ => 7 - (intOf c).toNat)
 case atStart => exact ⟨0, by omega, rfl, by simp, rfl, rfl⟩
 case round =>
  obtain ⟨k, hk, rfl, rfl, rfl, rfl⟩ := hrel
  by_cases hlt : k < 7
  ·have hlt2 : (k : Int) < 7 := by omega
   have HT : Shh (i / 2 ^ k < 128 ∧ rvP i k < 128 ∧ rvP i (k + 1) = 2 * rvP i k + i / 2 ^ k % 2 ∧ i / 2 ^ (k + 1) = i / 2 ^ k / 2) := by
    refine ⟨Nat.lt_of_le_of_lt (Nat.div_le_self _ _) HI.out, Nat.lt_of_lt_of_le (HP.out k) (Nat.le_trans (Nat.pow_le_pow_right (by decide) (Nat.le_of_lt hlt)) (by decide)), rfl, by rw [Nat.pow_succ, Nat.div_div_eq_div_mul]⟩
   obtain ⟨t, Ht⟩ : ∃ t, Shh (t = i / 2 ^ k) := ⟨_, ⟨rfl⟩⟩
   obtain ⟨o, Ho⟩ : ∃ o, Shh (o = rvP i k) := ⟨_, ⟨rfl⟩⟩
   rw [← Ht.out, ← Ho.out] at HT ⊢
   clear Ht Ho
   go_wp2_with (first | refine wl_value (.int .i64 ((2 * o : Nat) : Int)) rfl (mul_iin (i := 2) rfl (by have := HT.out; omega) rfl rfl rfl) ?_ | refine wl_value (.int .i64 ((t % 2 : Nat) : Int)) rfl (rem_i2 rfl (by have := HT.out; omega) rfl rfl) ?_ | refine wl_value (.int .i64 ((2 * o + t % 2 : Nat) : Int)) rfl (add_ii (i := 2 * o) (j := t % 2) ⟨rfl, by have := HT.out; omega⟩ rfl rfl rfl) ?_ | refine wl_value (.int .i64 ((t / 2 : Nat) : Int)) rfl (quo_i2 (n := t) rfl (by have := HT.out; omega) rfl rfl) ?_)
   go_roundw
   case rel => exact ⟨k + 1, by omega, by go_num, by rw [HT.out.2.2.2]; rfl, by rw [HT.out.2.2.1]; rfl, trivial⟩
   case measure => simp [intOf]; omega
  ·have hlt2 : ¬ (k : Int) < 7 := by omega
   have HE : Shh (rvP i k = r) := ⟨by rw [show k = 7 by omega]; exact HA.out⟩
   rw [HE.out]
   go_wp2
   go_ret
   exact ⟨rfl, rfl⟩
/-- powers modulo q, one factor after the other -/
def pwN (x : Nat) : Nat → Nat
 | 0 => 1
 | n + 1 => pwN x n * x % 3329
theorem pwN_eq (x : Nat) : ∀ n, pwN x n % 3329 = x ^ n % 3329
 | 0 => rfl
 | n + 1 => by
  show pwN x n * x % 3329 % 3329 = x ^ (n + 1) % 3329
  rw [Nat.mod_mod, Nat.pow_succ, Nat.mul_mod, pwN_eq x n, ← Nat.mul_mod]
theorem pwN_lt (x : Nat) : ∀ n, pwN x n < 3329
 | 0 => by show 1 < 3329; decide
 | n + 1 => Nat.mod_lt _ (by decide)
theorem pwN_is (x n : Nat) : pwN x n = x ^ n % 3329 := by rw [← pwN_eq, Nat.mod_eq_of_lt (pwN_lt x n)]
set_option maxHeartbeats 1000000 in
theorem power_any (x n : Nat) (hx : x < 3329) (hn : n ≤ 1000000) (w : World) : Calls Try.prog 48 #[.int .i64 (x : Int), .int .i64 (n : Int)] w (NumIs w (x ^ n % 3329)) := by
 unfold NumIs
 rw [← pwN_is]
 have HX := Shh.mk hx
 have HP := Shh.mk (pwN_lt x)
 go_enter Try.func48, Try.ntmps48
 go_wp2
 go_loopw [5, 7] (fun o c wr => ∃ k : Nat, k ≤ n ∧ c = .int .i64 (k : Int) ∧ o = .int .i64 (pwN x k : Int) ∧ wr = w) (fun _ c _ => n - (intOf c).toNat)
 case atStart => exact ⟨0, by omega, rfl, rfl, rfl⟩
 case round =>
  obtain ⟨k, hk, rfl, rfl, rfl⟩ := hrel
  by_cases hlt : k < n
  ·have hlt2 : (k : Int) < (n : Int) := by omega
   have HT : Shh (pwN x k < 3329 ∧ pwN x (k + 1) = pwN x k * x % 3329) := ⟨HP.out k, rfl⟩
   obtain ⟨o, Ho⟩ : ∃ o, Shh (o = pwN x k) := ⟨_, ⟨rfl⟩⟩
   rw [← Ho.out] at HT ⊢
   clear Ho
   have HM : Shh (o * x ≤ 1000000000000) := ⟨Nat.le_trans (Nat.mul_le_mul (Nat.le_of_lt HT.out.1) (Nat.le_of_lt HX.out)) (by decide)⟩
   obtain ⟨m, Hm⟩ : ∃ m, Shh (m = o * x) := ⟨_, ⟨rfl⟩⟩
   have HM2 : Shh (m ≤ 1000000000000) := ⟨by rw [Hm.out]; exact HM.out⟩
   go_wp2_with (first | refine wl_value (.int .i64 (m : Int)) rfl (mul_iin (i := o) (j := x) Hm.out HM2.out rfl rfl rfl) ?_ | refine wl_value (.int .i64 ((m % 3329 : Nat) : Int)) rfl (rem_iq rfl HM2.out rfl rfl) ?_)
   go_roundw
   case rel => exact ⟨k + 1, by omega, by go_num, by rw [HT.out.2, ← Hm.out]; rfl, trivial⟩
   case measure => simp [intOf]; omega
  ·have hlt2 : ¬ (k : Int) < (n : Int) := by omega
   rw [show k = n by omega]
   go_wp2
   go_ret
   exact ⟨rfl, rfl⟩
set_option maxHeartbeats 1000000 in
theorem Root_any (i : Nat) (hi : i < 128) (w : World) : Calls Try.prog 47 #[.int .i64 (i : Int)] w (NumIs w (rtN i)) := by
 have hr := rv_lt i hi
 have HV : Shh (∀ w, Calls Try.prog 58 #[.int .i64 (i : Int)] w (NumIs w (rvN i))) := ⟨fun w => rev_any i hi w⟩
 have HW : Shh (∀ w, Calls Try.prog 48 #[.int .i64 17, .int .i64 ((2 * rvN i + 1 : Nat) : Int)] w (NumIs w (rtN i))) := ⟨fun w => power_any 17 (2 * rvN i + 1) (by decide) (by omega) w⟩
 generalize rtN i = t at *
 have HR := Shh.mk hr
 clear hr
 generalize rvN i = r at *
 unfold NumIs at *
 go_enter Try.func47, Try.ntmps47
 go_wp2_with (go_at_call 58; refine (HV.out _).mono ?_)
 rintro e w2 ⟨rfl, rfl⟩
 go_wp2_with (first | (go_at_call 48; refine (HW.out _).mono ?_) | refine wl_value (.int .i64 ((2 * r : Nat) : Int)) rfl (mul_iin (i := 2) rfl (by have := HR.out; omega) rfl rfl rfl) ?_ | refine wl_value (.int .i64 ((2 * r + 1 : Nat) : Int)) rfl (add_ii (i := 2 * r) (j := 1) ⟨rfl, by have := HR.out; omega⟩ rfl rfl rfl) ?_)
 rintro e w3 ⟨rfl, rfl⟩
 go_wp2
 go_ret
 exact ⟨rfl, rfl⟩
set_option maxHeartbeats 1000000 in
theorem width_any (d : Nat) (hd : d ≤ 30) (w : World) : Calls Try.prog 50 #[.int .i64 (d : Int)] w (NumIs w (2 ^ d)) := by
 unfold NumIs
 have HP : Shh (∀ k, k ≤ d → 2 ^ k ≤ 2 ^ 30) := ⟨fun k hk => Nat.pow_le_pow_right (by decide) (by omega)⟩
 have HQ : Shh (∀ k, 2 ^ (k + 1) = 2 ^ k * 2) := ⟨fun k => Nat.pow_succ _ _⟩
 obtain ⟨f, Hf⟩ : ∃ f : Nat → Nat, Shh (f = fun k => 2 ^ k) := ⟨_, ⟨rfl⟩⟩
 have HF : Shh ((∀ k, k ≤ d → f k ≤ 1073741824) ∧ (∀ k, f (k + 1) = f k * 2) ∧ f 0 = 1) := ⟨by rw [Hf.out]; exact ⟨fun k hk => HP.out k hk, fun k => HQ.out k, rfl⟩⟩
 rw [show (2 ^ d : Nat) = f d by rw [Hf.out]]
 clear HP HQ Hf
 go_enter Try.func50, Try.ntmps50
 go_wp2
 go_loopw [3, 5] (fun o c wr => ∃ k : Nat, k ≤ d ∧ c = .int .i64 (k : Int) ∧ o = .int .i64 (f k : Int) ∧ wr = w) (fun _ c _ => d - (intOf c).toNat)
 case atStart => exact ⟨0, by omega, rfl, by rw [HF.out.2.2]; rfl, rfl⟩
 case round =>
  obtain ⟨k, hk, rfl, rfl, rfl⟩ := hrel
  by_cases hlt : k < d
  ·have hlt2 : (k : Int) < (d : Int) := by omega
   have HT : Shh (f k ≤ 1073741824 ∧ f (k + 1) = f k * 2) := ⟨HF.out.1 k hk, HF.out.2.1 k⟩
   obtain ⟨o, Ho⟩ : ∃ o, Shh (o = f k) := ⟨_, ⟨rfl⟩⟩
   rw [← Ho.out] at HT ⊢
   clear Ho
   go_wp2_with (refine wl_value (.int .i64 ((o * 2 : Nat) : Int)) rfl (mul_iin (i := o) (j := 2) rfl (by have := HT.out; omega) rfl rfl rfl) ?_)
   go_roundw
   case rel => exact ⟨k + 1, by omega, by go_num, by rw [HT.out.2]; rfl, trivial⟩
   case measure => simp [intOf]; omega
  ·have hlt2 : ¬ (k : Int) < (d : Int) := by omega
   rw [show k = d by omega]
   go_wp2
   go_ret
   exact ⟨rfl, rfl⟩
theorem Near_any (x u d : Nat) (hx : x ≤ 100000) (hu : u ≤ 100000) (hd : 0 < d ∧ d ≤ 100000) (w : World) : Calls Try.prog 41 #[.int .i64 (x : Int), .int .i64 (u : Int), .int .i64 (d : Int)] w (NumIs w ((2 * x * u + d) / (2 * d))) := by
 unfold NumIs
 have h1 : 2 * x * u ≤ 200000 * 100000 := Nat.mul_le_mul (by omega) hu
 obtain ⟨m, Hm⟩ : ∃ m, Shh (m = 2 * x * u) := ⟨_, ⟨rfl⟩⟩
 have HM : Shh (m ≤ 20000000000) := ⟨by rw [Hm.out]; exact h1⟩
 have HX : Shh (x ≤ 100000 ∧ 0 < d ∧ d ≤ 100000) := ⟨hx, hd⟩
 rw [← Hm.out]
 clear h1 hx hu hd
 go_enter Try.func41, Try.ntmps41
 go_wp2_with (first | refine wl_value (.int .i64 ((2 * x : Nat) : Int)) rfl (mul_iin (i := 2) (j := x) rfl (by have := HX.out; omega) rfl rfl rfl) ?_ | refine wl_value (.int .i64 (m : Int)) rfl (mul_iin (i := 2 * x) (j := u) Hm.out (by have := HM.out; omega) rfl rfl rfl) ?_ | refine wl_value (.int .i64 ((m + d : Nat) : Int)) rfl (add_ii (i := m) (j := d) ⟨rfl, by have := HM.out; have := HX.out; omega⟩ rfl rfl rfl) ?_ | refine wl_value (.int .i64 ((2 * d : Nat) : Int)) rfl (mul_iin (i := 2) (j := d) rfl (by have := HX.out; omega) rfl rfl rfl) ?_ | refine wl_value (.int .i64 (((m + d) / (2 * d) : Nat) : Int)) rfl (quo_ii (i := m + d) (j := 2 * d) rfl (by have := HX.out; omega) (by have := HM.out; have := HX.out; omega) rfl rfl rfl) ?_)
 go_ret
 exact ⟨rfl, rfl⟩
end Go.Proofs.Ytfcgdjgfdbcddaa

/-
 STORES into polynomials; Horner's rule.
-/
namespace Go.Proofs.Ytfcgdjgfdbcddaa
open Go.RowKit
set_option maxRecDepth 100000
section
variable {ops : Array Oper} {rest : List Oper} {o : Oper} {a : Act} {w : World} {Q : Exit → Act → World → Prop} {x y : Operand} {op : Oper}
theorem wl_at (d : Nat) (hd : o.dst = some d) (v : Value) (hgd : o.guard = none) (hrun : (execOp a.eval o).run Try.prog w = .ok (.value v) w) {a2 : Act} (h : wpList Try.prog ops Q rest a2 w) (ha : a.put (some d) v = a2 := by ((try simp only [Act.put, arr9, hd9, tl9]); rfl)) : wpList Try.prog ops Q (o :: rest) a w := wl_value v hgd hrun (by rw [hd, ha]; exact h)
theorem wl_storeP {g k v : Nat} {q : Nat → Nat} (hgd : o.guard = none) (hk : k < 256) (ho : o.op = .store 22 x y) (hx : a.eval x = .pointer (some ⟨g, k, none⟩)) (hy : a.eval y = .int .u16 (v : Int)) (hr : Row w g 24 (pc q))
 (h : ∀ w2, Row w2 g 24 (pc (upd q k v)) → But w.heap.size g w w2 → w2.heap.size = w.heap.size → wpList Try.prog ops Q rest (a.put o.dst undef) w2) : wpList Try.prog ops Q (o :: rest) a w := by
 have hc := hr.cell k
 rw [pc_get _ hk] at hc
 have hf := hr.free k
 have hs := hr.set_ k (.int .u16 (v : Int))
 rw [pc_set] at hs
 refine wpList_plain hgd fun K hK => ?_
 unfold Oper.wp
 rw [show (execOp a.eval o).run Try.prog w = .ok .skip (w.setCell ⟨g, k, none⟩ (.int .u16 (v : Int))) from by
  unfold execOp
  simp only [ho, hx, hy]
  go_simp]
 exact hK _ _ (h _ hs ((But.refl _ _ _).setCell _ _) (by simp [World.setCell]))
theorem dec_i {i : Int} (h : -1 ≤ i ∧ i ≤ 1000000) (ho : op.op = .binOp .sub 3 x (.const (.int .i64 1)) 3) (hx : a.eval x = .int .i64 i) : (execOp a.eval op).run Try.prog w = .ok (.value (.int .i64 (i - 1))) w := by
 have hc : a.eval (.const (.int .i64 1)) = .int .i64 1 := rfl
 have hw : IntKind.i64.wrap (i - 1) = i - 1 := by rw [IntKind.wrap_i64]; omega
 clear h
 unfold execOp
 simp only [ho, hx, hc]
 go_simp
end
/-- the sum by Horner's rule, from number 127 down -/
def hz (g : Nat) (c : Nat → Nat) : Nat → Nat
 | 0 => 0
 | m + 1 => (hz g c m * g + c (127 - m)) % 3329
theorem hz_lt (g : Nat) (c : Nat → Nat) : ∀ m, hz g c m < 3329
 | 0 => by show 0 < 3329; decide
 | m + 1 => Nat.mod_lt _ (by decide)
theorem rS_first (f : Nat → Int) : ∀ n, rS (n + 1) f = f 0 + rS n (fun t => f (t + 1))
 | 0 => by show 0 + f 0 = f 0 + 0; omega
 | n + 1 => by
  show rS (n + 1) f + f (n + 1) = f 0 + (rS n (fun t => f (t + 1)) + f (n + 1))
  rw [rS_first f n]
  omega
theorem hz_sum (g : Nat) (c : Nat → Nat) : ∀ m, m ≤ 128 → rM (hz g c m : Int) (rS m (fun t => (c (128 - m + t) : Int) * (g : Int) ^ t))
 | 0, _ => rfl
 | m + 1, h => by
  have ih := hz_sum g c m (by omega)
  rw [rS_first, show hz g c (m + 1) = (hz g c m * g + c (127 - m)) % 3329 from rfl, Int.pow_zero, Int.mul_one, show 128 - (m + 1) + 0 = 127 - m by omega]
  refine (rM_nat _).trans ?_
  rw [Int.natCast_add, Int.natCast_mul]
  refine ((ih.mul (rM.of rfl)).add (rM.of rfl)).trans (rM.of ?_)
  rw [← rS_mulr, Int.add_comm]
  congr 1
  refine rS_congr fun t ht => ?_
  rw [show 128 - (m + 1) + (t + 1) = 128 - m + t by omega, Int.pow_succ, Int.mul_assoc]
theorem hz_even (p : Nat → Nat) (k : Nat) : hz (rtN k) (fun j => p (2 * j)) 128 = nttN p (2 * k) := by
 have h := hz_sum (rtN k) (fun j => p (2 * j)) 128 (Nat.le_refl _)
 have h2 := hz_lt (rtN k) (fun j => p (2 * j)) 128
 rw [show nttN p (2 * k) = rd (evP (rtN k) (iP p)) by unfold nttN; rw [if_pos (by omega), show 2 * k / 2 = k by omega]]
 rw [← Nat.mod_eq_of_lt h2, ← rd_same]
 refine rd_of (h.trans (rM.of ?_))
 exact rS_congr fun t _ => by rw [show 128 - 128 + t = t by omega]; rfl
theorem hz_odd (p : Nat → Nat) (k : Nat) : hz (rtN k) (fun j => p (2 * j + 1)) 128 = nttN p (2 * k + 1) := by
 have h := hz_sum (rtN k) (fun j => p (2 * j + 1)) 128 (Nat.le_refl _)
 have h2 := hz_lt (rtN k) (fun j => p (2 * j + 1)) 128
 rw [show nttN p (2 * k + 1) = rd (odP (rtN k) (iP p)) by unfold nttN; rw [if_neg (by omega), show (2 * k + 1) / 2 = k by omega]]
 rw [← Nat.mod_eq_of_lt h2, ← rd_same]
 refine rd_of (h.trans (rM.of ?_))
 exact rS_congr fun t _ => by rw [show 128 - 128 + t = t by omega]; rfl
theorem half_two (r p : Nat → Nat) (k : Nat) : pc (upd (upd (half r p (2 * k)) (2 * k) (r (2 * k))) (2 * k + 1) (r (2 * k + 1))) = pc (half r p (2 * (k + 1))) := pc_of fun i _ => by
 unfold upd half
 by_cases h : i = 2 * k + 1
 ·rw [if_pos h, if_pos (by omega), h]
 ·rw [if_neg h]
  by_cases h2 : i = 2 * k
  ·rw [if_pos h2, if_pos (by omega), h2]
  ·rw [if_neg h2]
   by_cases h3 : i < 2 * k
   ·rw [if_pos h3, if_pos (by omega)]
   ·rw [if_neg h3, if_neg (by omega)]
end Go.Proofs.Ytfcgdjgfdbcddaa

/-
 ARRAYS of numbers; the product's sums, one summand after the other.
-/
namespace Go.Proofs.Ytfcgdjgfdbcddaa
open Go.RowKit
set_option maxRecDepth 100000
def ic (n : Nat) (f : Nat → Nat) : List Value := (List.range n).map fun i => .int .i64 (f i : Int)
theorem ic_length (n : Nat) (p : Nat → Nat) : (ic n p).length = n := by simp [ic]
theorem ic_get {n : Nat} (p : Nat → Nat) {k : Nat} (h : k < n) : (ic n p)[k]? = some (.int .i64 (p k : Int)) := by
 unfold ic
 rw [List.getElem?_map, List.getElem?_range h]
 rfl
theorem ic_of {n : Nat} {p r : Nat → Nat} (h : ∀ i, i < n → p i = r i) : ic n p = ic n r := by
 unfold ic
 exact List.map_congr_left fun i hi => by rw [h i (List.mem_range.1 hi)]
theorem ic_set (n : Nat) (p : Nat → Nat) (k v : Nat) : (ic n p).set k (.int .i64 (v : Int)) = ic n (upd p k v) := by
 apply List.ext_getElem?
 intro i
 rw [List.getElem?_set]
 by_cases hi : i < n
 ·rw [ic_get _ hi]
  by_cases h : k = i
  ·subst h
   rw [if_pos rfl, if_pos (by rw [ic_length]; exact hi), ic_get _ hi]
   unfold upd
   rw [if_pos rfl]
  ·rw [if_neg h, ic_get _ hi]
   unfold upd
   rw [if_neg (fun q => h q.symm)]
 ·rw [List.getElem?_eq_none (l := ic n (upd p k v)) (by rw [ic_length]; omega)]
  by_cases h : k = i
  ·rw [if_pos h, if_neg (by rw [ic_length]; omega)]
  ·rw [if_neg h, List.getElem?_eq_none (by rw [ic_length]; omega)]
theorem zero_512 (W : World) : (zeroValue 47).run Try.prog W = .ok (.agg (ic 512 fun _ => 0).toArray) W := by kernel_rfl
theorem zero_128 (W : World) : (zeroValue 51).run Try.prog W = .ok (.agg (ic 128 fun _ => 0).toArray) W := by kernel_rfl
section
variable {ops : Array Oper} {rest : List Oper} {o : Oper} {a : Act} {w : World} {Q : Exit → Act → World → Prop} {x y : Operand} {op : Oper}
theorem wl_alloc512 (hgd : o.guard = none) (ho : o.op = .alloc 47) (h : wpList Try.prog ops Q rest (a.put o.dst (.pointer (some ⟨w.heap.size, 0, none⟩))) (w.alloc (.cells (ic 512 fun _ => 0).toArray 47))) : wpList Try.prog ops Q (o :: rest) a w := by
 refine wl_valueW (.pointer (some ⟨w.heap.size, 0, none⟩)) (w.alloc (.cells (ic 512 fun _ => 0).toArray 47)) hgd ?_ h
 have hz := zero_512 w
 unfold execOp
 simp only [ho]
 generalize ic 512 (fun _ => 0) = z at *
 go_simp
theorem wl_alloc128 (hgd : o.guard = none) (ho : o.op = .alloc 51) (h : wpList Try.prog ops Q rest (a.put o.dst (.pointer (some ⟨w.heap.size, 0, none⟩))) (w.alloc (.cells (ic 128 fun _ => 0).toArray 51))) : wpList Try.prog ops Q (o :: rest) a w := by
 refine wl_valueW (.pointer (some ⟨w.heap.size, 0, none⟩)) (w.alloc (.cells (ic 128 fun _ => 0).toArray 51)) hgd ?_ h
 have hz := zero_128 w
 unfold execOp
 simp only [ho]
 generalize ic 128 (fun _ => 0) = z at *
 go_simp
theorem at_512 {g k : Nat} (hk : k < 512) (ho : op.op = .indexAddr 47 x y) (hx : a.eval x = .pointer (some ⟨g, 0, none⟩)) (hy : a.eval y = .int .i64 (k : Int)) : (execOp a.eval op).run Try.prog w = .ok (.value (.pointer (some ⟨g, k, none⟩))) w := by
 have h1 : (k : Int) < 512 := by omega
 have h2 : (0 : Int) ≤ (k : Int) := by omega
 unfold execOp
 simp only [ho, hx, hy]
 go_simp
theorem at_128 {g k : Nat} (hk : k < 128) (ho : op.op = .indexAddr 51 x y) (hx : a.eval x = .pointer (some ⟨g, 0, none⟩)) (hy : a.eval y = .int .i64 (k : Int)) : (execOp a.eval op).run Try.prog w = .ok (.value (.pointer (some ⟨g, k, none⟩))) w := by
 have h1 : (k : Int) < 128 := by omega
 have h2 : (0 : Int) ≤ (k : Int) := by omega
 unfold execOp
 simp only [ho, hx, hy]
 go_simp
theorem load_ir {q : Addr} {n : Nat} (ho : op.op = .load 3 x) (hc : w.cell? q = some (.int .i64 (n : Int))) (hx : a.eval x = .pointer (some q)) : (execOp a.eval op).run Try.prog w = .ok (.value (.int .i64 (n : Int))) w := by
 unfold execOp
 simp only [ho, hx]
 go_simp
theorem run_storeI {g k v : Nat} {n : Nat} {T : TypeId} {q : Nat → Nat} (hk : k < n) (hr : Row w g T (ic n q)) (ho : op.op = .store 3 x y) (hx : a.eval x = .pointer (some ⟨g, k, none⟩)) (hy : a.eval y = .int .i64 (v : Int)) : (execOp a.eval op).run Try.prog w = .ok .skip (w.setCell ⟨g, k, none⟩ (.int .i64 (v : Int))) := by
 have hc := hr.cell k
 rw [ic_get _ hk] at hc
 have hf := hr.free k
 unfold execOp
 simp only [ho, hx, hy]
 go_simp
theorem run_storeP {g k v : Nat} {T : TypeId} {q : Nat → Nat} (hk : k < 256) (hr : Row w g T (pc q)) (ho : op.op = .store 22 x y) (hx : a.eval x = .pointer (some ⟨g, k, none⟩)) (hy : a.eval y = .int .u16 (v : Int)) : (execOp a.eval op).run Try.prog w = .ok .skip (w.setCell ⟨g, k, none⟩ (.int .u16 (v : Int))) := by
 have hc := hr.cell k
 rw [pc_get _ hk] at hc
 have hf := hr.free k
 unfold execOp
 simp only [ho, hx, hy]
 go_simp
end
theorem nS_le {f : Nat → Nat} {c : Nat} (h : ∀ i, f i ≤ c) : ∀ n, nS n f ≤ n * c
 | 0 => Nat.zero_le _
 | n + 1 => by
  show nS n f + f n ≤ (n + 1) * c
  rw [Nat.succ_mul]
  exact Nat.add_le_add (nS_le h n) (h n)
/-- the sums of the product, when i rows and k summands of the next are done -/
def sumP (A B : Nat → Nat) (i k m : Nat) : Nat := nS i (fun i' => nS 256 (fun k' => if i' + k' = m then A i' * B k' else 0)) + nS k (fun k' => if i + k' = m then A i * B k' else 0)
theorem sumP_zero (A B : Nat → Nat) : sumP A B 0 0 = fun _ => 0 := rfl
theorem sumP_row (A B : Nat → Nat) (i : Nat) : sumP A B i 256 = sumP A B (i + 1) 0 := by
 funext m
 rfl
theorem sumP_next (A B : Nat → Nat) (i k : Nat) : upd (sumP A B i k) (i + k) (sumP A B i k (i + k) + A i * B k) = sumP A B i (k + 1) := by
 funext m
 unfold upd
 by_cases h : m = i + k
 ·subst h
  rw [if_pos rfl]
  show _ = nS i _ + (nS k _ + (if i + k = i + k then A i * B k else 0))
  rw [if_pos rfl, ← Nat.add_assoc]
  rfl
 ·rw [if_neg h]
  show _ = nS i _ + (nS k _ + (if i + k = m then A i * B k else 0))
  rw [if_neg (fun q => h q.symm), Nat.add_zero]
  rfl
theorem sumP_le {A B : Nat → Nat} (hA : ∀ i, A i < 3329) (hB : ∀ i, B i < 3329) (i k m : Nat) (hi : i ≤ 256) (hk : k ≤ 256) : sumP A B i k m ≤ 800000000000 := by
 have h1 : ∀ i k, A i * B k ≤ 3328 * 3328 := fun i k => Nat.mul_le_mul (Nat.le_of_lt_succ (hA i)) (Nat.le_of_lt_succ (hB k))
 have h2 : ∀ i' k', (if i' + k' = m then A i' * B k' else 0) ≤ 3328 * 3328 := fun i' k' => by
  split
  ·exact h1 _ _
  ·exact Nat.zero_le _
 have h3 := nS_le (fun i' => nS_le (h2 i') 256) i
 have h4 := nS_le (h2 i) k
 unfold sumP
 refine Nat.le_trans (Nat.add_le_add h3 h4) ?_
 refine Nat.le_trans (Nat.add_le_add (Nat.mul_le_mul_right _ hi) (Nat.mul_le_mul_right _ hk)) (by decide)
theorem sumP_cnv (A B : Nat → Nat) (m : Nat) : ((sumP A B 256 0 m : Nat) : Int) = cnv (iP A) (iP B) m := by
 unfold sumP cnv
 show (((nS 256 _) + 0 : Nat) : Int) = _
 rw [Nat.add_zero, nS_int]
 refine rS_congr fun i _ => ?_
 rw [nS_int]
 refine rS_congr fun k _ => ?_
 split
 ·exact Int.natCast_mul _ _
 ·rfl
theorem mul_out (p r : Nat → Nat) (k : Nat) : (sumP (fun i => p i % 3329) (fun i => r i % 3329) 256 0 k % 3329 + 3329 - sumP (fun i => p i % 3329) (fun i => r i % 3329) 256 0 (k + 256) % 3329) % 3329 = mulN p r k := by
 have h : ∀ q : Nat → Nat, pM (iP fun i => q i % 3329) (iP q) := fun q k _ => rM_nat _
 have h1 : mulN p r k = rd (ngc (iP fun i => p i % 3329) (iP fun i => r i % 3329) k) := (rd_of (ngc_of (h p) (h r) k)).symm
 rw [h1]
 unfold ngc rd
 rw [← sumP_cnv, ← sumP_cnv]
 generalize sumP (fun i => p i % 3329) (fun i => r i % 3329) 256 0 k = x
 generalize sumP (fun i => p i % 3329) (fun i => r i % 3329) 256 0 (k + 256) = y
 omega
end Go.Proofs.Ytfcgdjgfdbcddaa

/-
 THE INVERSE TRANSFORM's sums.
-/
namespace Go.Proofs.Ytfcgdjgfdbcddaa
open Go.RowKit
set_option maxRecDepth 100000
section
variable {ops : Array Oper} {rest : List Oper} {o : Oper} {a : Act} {w : World} {Q : Exit → Act → World → Prop} {x y : Operand} {op : Oper}
theorem wl_storeI {g k v n : Nat} {T : TypeId} {q : Nat → Nat} (hgd : o.guard = none) (hk : k < n) (ho : o.op = .store 3 x y) (hx : a.eval x = .pointer (some ⟨g, k, none⟩)) (hy : a.eval y = .int .i64 (v : Int)) (hr : Row w g T (ic n q))
 (h : ∀ w2, Row w2 g T (ic n (upd q k v)) → But w.heap.size g w w2 → w2.heap.size = w.heap.size → wpList Try.prog ops Q rest (a.put o.dst undef) w2) : wpList Try.prog ops Q (o :: rest) a w := by
 have hs := hr.set_ k (.int .i64 (v : Int))
 rw [ic_set] at hs
 refine wpList_plain hgd fun K hK => ?_
 unfold Oper.wp
 rw [run_storeI hk hr ho hx hy]
 exact hK _ _ (h _ hs ((But.refl _ _ _).setCell _ _) (by simp [World.setCell]))
end
/-- what is added to number j in round i: c * 3303 * g^j, one factor after the other -/
def tS (g c : Nat) : Nat → Nat
 | 0 => c % 3329 * 3303 % 3329
 | j + 1 => tS g c j * g % 3329
theorem tS_lt (g c : Nat) : ∀ j, tS g c j < 3329
 | 0 => Nat.mod_lt _ (by decide)
 | _ + 1 => Nat.mod_lt _ (by decide)
theorem tS_is (g c : Nat) : ∀ j, rM (tS g c j : Int) ((c : Int) * 3303 * (g : Int) ^ j)
 | 0 => by
  rw [Int.pow_zero, Int.mul_one]
  refine (rM_nat _).trans ?_
  rw [Int.natCast_mul]
  exact (rM_nat _).mul (rM.of rfl)
 | j + 1 => by
  refine (rM_nat _).trans ?_
  rw [Int.natCast_mul, Int.pow_succ, ← Int.mul_assoc]
  exact (tS_is g c j).mul (rM.of rfl)
/-- the root that goes back -/
def gB (i : Nat) : Nat := rtN i ^ 255 % 3329
/-- the sums, when i rounds and k numbers of the next are done -/
def invS (c : Nat → Nat) (i k j : Nat) : Nat := nS i (fun i' => tS (gB i') (c i') j) + if j < k then tS (gB i) (c i) j else 0
theorem invS_zero (c : Nat → Nat) : invS c 0 0 = fun _ => 0 := funext fun _ => rfl
theorem invS_row (c : Nat → Nat) (i : Nat) : ic 128 (invS c i 128) = ic 128 (invS c (i + 1) 0) := ic_of fun j hj => by
 unfold invS
 rw [if_pos hj, if_neg (by omega)]
 rfl
theorem invS_next (c : Nat → Nat) (i k : Nat) : upd (invS c i k) k (invS c i k k + tS (gB i) (c i) k) = invS c i (k + 1) := by
 funext m
 unfold upd
 by_cases h : m = k
 ·subst h
  rw [if_pos rfl]
  unfold invS
  rw [if_neg (by omega), if_pos (by omega), Nat.add_zero]
 ·rw [if_neg h]
  unfold invS
  by_cases h2 : m < k
  ·rw [if_pos h2, if_pos (by omega)]
  ·rw [if_neg h2, if_neg (by omega)]
theorem invS_le (c : Nat → Nat) (i k j : Nat) (hi : i ≤ 128) : invS c i k j ≤ 1000000 := by
 have h := nS_le (f := fun i' => tS (gB i') (c i') j) (fun i' => Nat.le_of_lt (tS_lt _ _ _)) i
 have h2 := tS_lt (gB i) (c i) j
 unfold invS
 have h3 : i * 3329 ≤ 128 * 3329 := Nat.mul_le_mul_right _ hi
 split <;> omega
theorem invS_sum (c : Nat → Nat) (j : Nat) : rM (invS c 128 0 j : Int) (rS 128 (fun i => (c i : Int) * 3303 * (rtN i : Int) ^ (255 * j))) := by
 unfold invS
 rw [if_neg (by omega), Nat.add_zero, nS_int]
 refine rM_S fun i _ => (tS_is _ _ _).trans ?_
 refine (rM.of rfl).mul ?_
 rw [Int.pow_mul]
 refine rM.pow ?_ j
 unfold gB
 rw [Int.natCast_emod, Int.natCast_pow]
 exact rM_mod _
theorem inv_even (p : Nat → Nat) (j : Nat) : invS (fun i => p (2 * i)) 128 0 j % 3329 = invN p (2 * j) := by
 unfold invN
 rw [show 2 * j % 2 = 0 by omega, show 2 * j / 2 = j by omega, ← rd_same]
 exact rd_of (invS_sum _ _)
theorem inv_odd (p : Nat → Nat) (j : Nat) : invS (fun i => p (2 * i + 1)) 128 0 j % 3329 = invN p (2 * j + 1) := by
 unfold invN
 rw [show (2 * j + 1) % 2 = 1 by omega, show (2 * j + 1) / 2 = j by omega, ← rd_same]
 exact rd_of (invS_sum _ _)
end Go.Proofs.Ytfcgdjgfdbcddaa

/-
 THE FAST TRANSFORM: the tree of remainders, layer by layer.
-/
namespace Go.Proofs.Ytfcgdjgfdbcddaa
set_option maxRecDepth 100000
/-- 17 to the power rev -/
def wN (t : Nat) : Nat := 17 ^ rvN t % 3329
theorem wN_lt (t : Nat) : wN t < 3329 := Nat.mod_lt _ (by decide)
/-- the root of a node of the tree: node 1 is all, 2 t and 2 t + 1 are the halves of t -/
def nodeR (u : Nat) : Int := if u = 1 then -1 else if u % 2 = 0 then (wN (u / 2) : Int) else -(wN (u / 2) : Int)
theorem node_sq' : ((List.range 128).all fun t => decide (t = 0 ∨ (wN t * wN t) % 3329 = if t = 1 then 3328 else if t % 2 = 0 then wN (t / 2) else (3329 - wN (t / 2)) % 3329)) = true := by decide +kernel
theorem node_leaf' : ((List.range 128).all fun i => decide (rtN i = if i % 2 = 0 then wN (64 + i / 2) else (3329 - wN (64 + i / 2)) % 3329)) = true := by decide +kernel
theorem node_inv' : (([1, 2, 4, 8, 16, 32, 64] : List Nat).all fun J => (List.range J).all fun k => decide (wN (2 * J - 1 - k) * wN (J + k) % 3329 = 3328)) = true := by decide +kernel
theorem node_sq (t : Nat) (h0 : 1 ≤ t) (ht : t < 128) : rM ((wN t : Int) * (wN t : Int)) (nodeR t) := by
 have h := List.all_eq_true.1 node_sq' t (List.mem_range.2 ht)
 simp only [decide_eq_true_eq] at h
 have h1 : (wN t * wN t) % 3329 = if t = 1 then 3328 else if t % 2 = 0 then wN (t / 2) else (3329 - wN (t / 2)) % 3329 := by
  rcases h with h | h
  ·omega
  ·exact h
 have h2 := wN_lt (t / 2)
 unfold rM nodeR
 rw [← Int.natCast_mul]
 generalize wN t * wN t = X at *
 generalize wN (t / 2) = Y at *
 split at h1
 ·rw [if_pos (by assumption)]
  omega
 ·rw [if_neg (by assumption)]
  split at h1
  ·rw [if_pos (by assumption)]
   omega
  ·rw [if_neg (by assumption)]
   omega
theorem node_leaf (i : Nat) (hi : i < 128) : rM (nodeR (128 + i)) (rtN i : Int) := by
 have h := List.all_eq_true.1 node_leaf' i (List.mem_range.2 hi)
 simp only [decide_eq_true_eq] at h
 unfold rM nodeR
 rw [if_neg (by omega), show (128 + i) / 2 = 64 + i / 2 by omega]
 have h2 := wN_lt (64 + i / 2)
 generalize wN (64 + i / 2) = Y at *
 by_cases hp : i % 2 = 0
 ·rw [if_pos (by omega)]
  rw [if_pos hp] at h
  omega
 ·rw [if_neg (by omega)]
  rw [if_neg hp] at h
  omega
theorem node_inv (J k : Nat) (hJ : J = 1 ∨ J = 2 ∨ J = 4 ∨ J = 8 ∨ J = 16 ∨ J = 32 ∨ J = 64) (hk : k < J) : rM ((wN (2 * J - 1 - k) : Int) * (wN (J + k) : Int)) (-1) := by
 have h := List.all_eq_true.1 node_inv' J (by rcases hJ with rfl | rfl | rfl | rfl | rfl | rfl | rfl <;> decide)
 have h2 := List.all_eq_true.1 h k (List.mem_range.2 hk)
 simp only [decide_eq_true_eq] at h2
 unfold rM
 rw [← Int.natCast_mul]
 omega
theorem node_two (t : Nat) : nodeR (2 * t) = (wN t : Int) := by
 unfold nodeR
 rw [if_neg (by omega), if_pos (by omega), show 2 * t / 2 = t by omega]
theorem node_odd (t : Nat) (h : 1 ≤ t) : nodeR (2 * t + 1) = -(wN t : Int) := by
 unfold nodeR
 rw [if_neg (by omega), if_neg (by omega), show (2 * t + 1) / 2 = t by omega]
/-- a layer: J blocks of L numbers each -/
def lay (L J : Nat) (a : Nat → Int) (x : Nat) : Int := blk L J (nodeR (J + x / L)) a (x % L)
theorem blk_r {L J : Nat} {s t : Int} (h : rM s t) (a : Nat → Int) (i : Nat) : rM (blk L J s a i) (blk L J t a i) := rM_S fun j _ => (rM.of rfl).mul (h.pow j)
theorem lay_first (a : Nat → Int) (x : Nat) (hx : x < 256) : lay 256 1 a x = a x := by
 unfold lay
 rw [blk_one, Nat.mod_eq_of_lt hx]
theorem lay_last (a : Nat → Int) (x : Nat) (hx : x < 256) : rM (lay 2 128 a x) (if x % 2 = 0 then evP (rtN (x / 2)) a else odP (rtN (x / 2)) a) := by
 unfold lay
 refine (blk_r (node_leaf (x / 2) (by omega)) a _).trans (rM.of ?_)
 by_cases h : x % 2 = 0
 ·rw [if_pos h, h, blk_even]
 ·rw [if_neg h, show x % 2 = 1 by omega, blk_odd]
theorem divs (H k j : Nat) (hj : j < H) : (2 * H * k + j) / H = 2 * k ∧ (2 * H * k + j) % H = j ∧ (2 * H * k + j) / (2 * H) = k ∧ (2 * H * k + j) % (2 * H) = j ∧ (2 * H * k + j + H) / H = 2 * k + 1 ∧ (2 * H * k + j + H) % H = j ∧ (2 * H * k + j + H) / (2 * H) = k ∧ (2 * H * k + j + H) % (2 * H) = j + H := by
 have h0 : 0 < H := by omega
 have e1 : 2 * H * k + j = j + H * (2 * k) := by grind
 have e2 : 2 * H * k + j + H = j + H * (2 * k + 1) := by grind
 have e3 : 2 * H * k + j = j + 2 * H * k := by omega
 have e4 : 2 * H * k + j + H = j + H + 2 * H * k := by omega
 refine ⟨?_, ?_, ?_, ?_, ?_, ?_, ?_, ?_⟩
 ·rw [e1, Nat.add_mul_div_left _ _ h0, Nat.div_eq_of_lt hj, Nat.zero_add]
 ·rw [e1, Nat.add_mul_mod_self_left, Nat.mod_eq_of_lt hj]
 ·rw [e3, Nat.add_mul_div_left _ _ (by omega), Nat.div_eq_of_lt (by omega), Nat.zero_add]
 ·rw [e3, Nat.add_mul_mod_self_left, Nat.mod_eq_of_lt (by omega)]
 ·rw [e2, Nat.add_mul_div_left _ _ h0, Nat.div_eq_of_lt hj, Nat.zero_add]
 ·rw [e2, Nat.add_mul_mod_self_left, Nat.mod_eq_of_lt hj]
 ·rw [e4, Nat.add_mul_div_left _ _ (by omega), Nat.div_eq_of_lt (by omega), Nat.zero_add]
 ·rw [e4, Nat.add_mul_mod_self_left, Nat.mod_eq_of_lt (by omega)]
theorem lay_lo (H J k j : Nat) (hJ : 1 ≤ J) (hJ2 : J ≤ 64) (hk : k < J) (hj : j < H) (a : Nat → Int) : rM (lay H (2 * J) a (2 * H * k + j)) (lay (2 * H) J a (2 * H * k + j) + (wN (J + k) : Int) * lay (2 * H) J a (2 * H * k + j + H)) := by
 obtain ⟨d1, d2, d3, d4, d5, d6, d7, d8⟩ := divs H k j hj
 unfold lay
 rw [d1, d2, d3, d4, d7, d8, show 2 * J + 2 * k = 2 * (J + k) by omega, node_two]
 exact blk_split H J (node_sq (J + k) (by omega) (by omega)) a j
theorem lay_hi (H J k j : Nat) (hJ : 1 ≤ J) (hJ2 : J ≤ 64) (hk : k < J) (hj : j < H) (a : Nat → Int) : rM (lay H (2 * J) a (2 * H * k + j + H)) (lay (2 * H) J a (2 * H * k + j) - (wN (J + k) : Int) * lay (2 * H) J a (2 * H * k + j + H)) := by
 obtain ⟨d1, d2, d3, d4, d5, d6, d7, d8⟩ := divs H k j hj
 unfold lay
 rw [d5, d6, d3, d4, d7, d8, show 2 * J + (2 * k + 1) = 2 * (J + k) + 1 by omega, node_odd _ (by omega)]
 exact blk_split' H J (node_sq (J + k) (by omega) (by omega)) a j
/-- the numbers of a layer, times e -/
def layN (e : Nat) (L J : Nat) (p : Nat → Nat) (x : Nat) : Nat := rd ((e : Int) * lay L J (iP p) x)
theorem layN_lt (e L J : Nat) (p : Nat → Nat) (x : Nat) : layN e L J p x < 3329 := rd_lt _
theorem layN_first (p : Nat → Nat) (x : Nat) (hx : x < 256) : layN 1 256 1 p x = redN p x := by
 unfold layN redN
 rw [lay_first _ _ hx]
 exact rd_of (rM.of (by unfold iP; omega))
theorem layN_last (p : Nat → Nat) (x : Nat) (hx : x < 256) : layN 1 2 128 p x = nttN p x := by
 unfold layN nttN
 refine rd_of ((rM.of (by omega)).trans (lay_last _ _ hx))
theorem rM_layN (e L J : Nat) (p : Nat → Nat) (x : Nat) : rM (layN e L J p x : Int) ((e : Int) * lay L J (iP p) x) := rM_rd _
theorem rM_lay1 (L J : Nat) (p : Nat → Nat) (x : Nat) : rM (layN 1 L J p x : Int) (lay L J (iP p) x) := (rM_layN 1 L J p x).trans (rM.of (Int.one_mul _))
theorem nat_of {a b : Nat} (h : rM (a : Int) (b : Int)) (ha : a < 3329) (hb : b < 3329) : a = b := by unfold rM at h; omega
theorem layN_lo (H J k j : Nat) (hJ : 1 ≤ J) (hJ2 : J ≤ 64) (hk : k < J) (hj : j < H) (p : Nat → Nat) : layN 1 H (2 * J) p (2 * H * k + j) = (layN 1 (2 * H) J p (2 * H * k + j) + wN (J + k) * layN 1 (2 * H) J p (2 * H * k + j + H) % 3329) % 3329 := by
 refine nat_of ?_ (layN_lt _ _ _ _ _) (Nat.mod_lt _ (by decide))
 refine ((rM_lay1 _ _ _ _).trans (lay_lo H J k j hJ hJ2 hk hj _)).trans ?_
 refine rM.symm ((rM_nat _).trans ?_)
 rw [Int.natCast_add]
 refine (rM_lay1 _ _ _ _).add ?_
 refine (rM_nat _).trans ?_
 rw [Int.natCast_mul]
 exact (rM.of rfl).mul (rM_lay1 _ _ _ _)
theorem layN_hi (H J k j : Nat) (hJ : 1 ≤ J) (hJ2 : J ≤ 64) (hk : k < J) (hj : j < H) (p : Nat → Nat) : layN 1 H (2 * J) p (2 * H * k + j + H) = (layN 1 (2 * H) J p (2 * H * k + j) + 3329 - wN (J + k) * layN 1 (2 * H) J p (2 * H * k + j + H) % 3329) % 3329 := by
 refine nat_of ?_ (layN_lt _ _ _ _ _) (Nat.mod_lt _ (by decide))
 refine ((rM_lay1 _ _ _ _).trans (lay_hi H J k j hJ hJ2 hk hj _)).trans ?_
 refine rM.symm ((rM_nat _).trans ?_)
 have h1 := Nat.mod_lt (wN (J + k) * layN 1 (2 * H) J p (2 * H * k + j + H)) (show 0 < 3329 by decide)
 rw [Int.ofNat_sub (by omega), Int.natCast_add]
 refine rM.sub (((rM_lay1 _ _ _ _).add (show rM ((3329 : Nat) : Int) 0 from rfl)).trans (rM.of (Int.add_zero _))) ?_
 refine (rM_nat _).trans ?_
 rw [Int.natCast_mul]
 exact (rM.of rfl).mul (rM_lay1 _ _ _ _)
/-- back: two halves make twice the block -/
theorem layB_lo (e H J k j : Nat) (hJ : 1 ≤ J) (hJ2 : J ≤ 64) (hk : k < J) (hj : j < H) (p : Nat → Nat) : layN (2 * e) (2 * H) J p (2 * H * k + j) = (layN e H (2 * J) p (2 * H * k + j) + layN e H (2 * J) p (2 * H * k + j + H)) % 3329 := by
 refine nat_of ?_ (layN_lt _ _ _ _ _) (Nat.mod_lt _ (by decide))
 refine (rM_layN _ _ _ _ _).trans ?_
 refine rM.symm ((rM_nat _).trans ?_)
 rw [Int.natCast_add]
 refine ((rM_layN _ _ _ _ _).add (rM_layN _ _ _ _ _)).trans ?_
 refine (((rM.of rfl).mul (lay_lo H J k j hJ hJ2 hk hj _)).add ((rM.of rfl).mul (lay_hi H J k j hJ hJ2 hk hj _))).trans (rM.of ?_)
 rw [Int.natCast_mul]
 generalize lay (2 * H) J (iP p) (2 * H * k + j) = A
 generalize (wN (J + k) : Int) * lay (2 * H) J (iP p) (2 * H * k + j + H) = B
 grind
theorem layB_hi (e H J k j : Nat) (hJ : J = 1 ∨ J = 2 ∨ J = 4 ∨ J = 8 ∨ J = 16 ∨ J = 32 ∨ J = 64) (hk : k < J) (hj : j < H) (p : Nat → Nat) : layN (2 * e) (2 * H) J p (2 * H * k + j + H) = wN (2 * J - 1 - k) * ((layN e H (2 * J) p (2 * H * k + j + H) + 3329 - layN e H (2 * J) p (2 * H * k + j)) % 3329) % 3329 := by
 refine nat_of ?_ (layN_lt _ _ _ _ _) (Nat.mod_lt _ (by decide))
 refine (rM_layN _ _ _ _ _).trans ?_
 refine rM.symm ((rM_nat _).trans ?_)
 have h1 := layN_lt e H (2 * J) p (2 * H * k + j)
 have hJ1 : 1 ≤ J := by omega
 have hJ2 : J ≤ 64 := by omega
 rw [Int.natCast_mul]
 have h2 : rM (((layN e H (2 * J) p (2 * H * k + j + H) + 3329 - layN e H (2 * J) p (2 * H * k + j)) % 3329 : Nat) : Int) (-(2 * (e : Int)) * ((wN (J + k) : Int) * lay (2 * H) J (iP p) (2 * H * k + j + H))) := by
  refine (rM_nat _).trans ?_
  rw [Int.ofNat_sub (by omega), Int.natCast_add]
  refine rM.trans (rM.sub (((rM_layN _ _ _ _ _).add (show rM ((3329 : Nat) : Int) 0 from rfl)).trans (rM.of (Int.add_zero _))) (rM_layN _ _ _ _ _)) ?_
  refine (((rM.of rfl).mul (lay_hi H J k j hJ1 hJ2 hk hj _)).sub ((rM.of rfl).mul (lay_lo H J k j hJ1 hJ2 hk hj _))).trans (rM.of ?_)
  generalize lay (2 * H) J (iP p) (2 * H * k + j) = A
  generalize (wN (J + k) : Int) * lay (2 * H) J (iP p) (2 * H * k + j + H) = B
  grind
 refine ((rM.of rfl).mul h2).trans ?_
 generalize lay (2 * H) J (iP p) (2 * H * k + j + H) = A
 refine (rM.of (show _ = (-(2 * (e : Int)) * A) * ((wN (2 * J - 1 - k) : Int) * (wN (J + k) : Int)) by grind)).trans ?_
 refine ((rM.of rfl).mul (node_inv J k hJ hk)).trans (rM.of ?_)
 rw [Int.natCast_mul]
 grind
/-- at the end of the way back -/
theorem layB_end (p : Nat → Nat) (x : Nat) (hx : x < 256) : layN 128 256 1 p x * 3303 % 3329 = redN p x := by
 refine nat_of ?_ (Nat.mod_lt _ (by decide)) (rd_lt _)
 refine (rM_nat _).trans ?_
 rw [Int.natCast_mul]
 refine ((rM_layN _ _ _ _ _).mul (rM.of rfl)).trans ?_
 rw [lay_first _ _ hx]
 refine rM.trans ?_ (rM_rd _).symm
 unfold rM iP
 omega
theorem layB_start (p : Nat → Nat) (x : Nat) (hx : x < 256) : layN 1 2 128 (invN p) x = redN p x := by rw [layN_last _ _ hx, ntt_inv _ _ hx]
theorem inv_red (p : Nat → Nat) (x : Nat) : redN (invN p) x = invN p x := by
 unfold redN invN
 exact rd_rd _
/-- in the middle of a layer: k blocks and j numbers of the next one are done -/
def midN (H k j : Nat) (r p : Nat → Nat) (x : Nat) : Nat := if x / (2 * H) < k ∨ x / (2 * H) = k ∧ x % H < j then r x else p x
def isHalf (H : Nat) : Prop := H = 128 ∨ H = 64 ∨ H = 32 ∨ H = 16 ∨ H = 8 ∨ H = 4 ∨ H = 2
theorem mid_start (H : Nat) (r p : Nat → Nat) : pc (midN H 0 0 r p) = pc p := pc_of fun i _ => by
 unfold midN
 rw [if_neg (fun h => h.elim (Nat.not_lt_zero _) (fun h => Nat.not_lt_zero _ h.2))]
theorem mid_next (H k : Nat) (hH : isHalf H) (r p : Nat → Nat) : pc (midN H k H r p) = pc (midN H (k + 1) 0 r p) := pc_of fun i _ => by
 unfold midN
 have h : (i / (2 * H) < k ∨ i / (2 * H) = k ∧ i % H < H) ↔ (i / (2 * H) < k + 1 ∨ i / (2 * H) = k + 1 ∧ i % H < 0) := by
  rcases hH with rfl | rfl | rfl | rfl | rfl | rfl | rfl <;> omega
 by_cases h1 : i / (2 * H) < k ∨ i / (2 * H) = k ∧ i % H < H
 ·rw [if_pos h1, if_pos (h.1 h1)]
 ·rw [if_neg h1, if_neg (fun q => h1 (h.2 q))]
theorem mid_end (H J : Nat) (hH : isHalf H) (hJ : H * J = 128) (r p : Nat → Nat) : pc (midN H J 0 r p) = pc r := pc_of fun i hi => by
 unfold midN
 rw [if_pos]
 rcases hH with rfl | rfl | rfl | rfl | rfl | rfl | rfl <;> omega
theorem mid_lo (H k j : Nat) (hj : j < H) (r p : Nat → Nat) : midN H k j r p (2 * H * k + j) = p (2 * H * k + j) := by
 unfold midN
 obtain ⟨_, d2, d3, _⟩ := divs H k j hj
 rw [d2, d3, if_neg (by omega)]
theorem mid_hi (H k j : Nat) (hj : j < H) (r p : Nat → Nat) : midN H k j r p (2 * H * k + j + H) = p (2 * H * k + j + H) := by
 unfold midN
 obtain ⟨_, _, _, _, _, d6, d7, _⟩ := divs H k j hj
 rw [d6, d7, if_neg (by omega)]
theorem mid_two (H k j : Nat) (hH : isHalf H) (hj : j < H) (r p : Nat → Nat) : pc (upd (upd (midN H k j r p) (2 * H * k + j) (r (2 * H * k + j))) (2 * H * k + j + H) (r (2 * H * k + j + H))) = pc (midN H k (j + 1) r p) := pc_of fun i _ => by
 have h : (i / (2 * H) < k ∨ i / (2 * H) = k ∧ i % H < j + 1) ↔ ((i / (2 * H) < k ∨ i / (2 * H) = k ∧ i % H < j) ∨ i = 2 * H * k + j ∨ i = 2 * H * k + j + H) := by
  rcases hH with rfl | rfl | rfl | rfl | rfl | rfl | rfl <;> omega
 unfold upd midN
 by_cases h1 : i = 2 * H * k + j + H
 ·rw [if_pos h1, if_pos (h.2 (by omega)), h1]
 ·rw [if_neg h1]
  by_cases h2 : i = 2 * H * k + j
  ·rw [if_pos h2, if_pos (h.2 (by omega)), h2]
  ·rw [if_neg h2]
   by_cases h3 : i / (2 * H) < k ∨ i / (2 * H) = k ∧ i % H < j
   ·rw [if_pos h3, if_pos (h.2 (.inl h3))]
   ·rw [if_neg h3, if_neg (fun q => (h.1 q).elim h3 (fun q => q.elim h2 h1))]
end Go.Proofs.Ytfcgdjgfdbcddaa

/-
 NUMBERS OF d BITS, one behind the other: digits of one great number.
-/
namespace Go.Proofs.Ytfcgdjgfdbcddaa
set_option maxRecDepth 100000
/-- the number of the first k digits f to the base b -/
def sumN (f : Nat → Nat) (b : Nat) : Nat → Nat
 | 0 => 0
 | k + 1 => sumN f b k + f k * b ^ k
theorem sumN_lt {f : Nat → Nat} {b : Nat} (h : ∀ i, f i < b) : ∀ k, sumN f b k < b ^ k
 | 0 => by show 0 < b ^ 0; rw [Nat.pow_zero]; decide
 | k + 1 => by
  have h1 := sumN_lt h k
  have h2 : (f k + 1) * b ^ k ≤ b * b ^ k := Nat.mul_le_mul_right _ (h k)
  rw [Nat.add_mul, Nat.one_mul] at h2
  show sumN f b k + f k * b ^ k < b ^ (k + 1)
  rw [Nat.pow_succ, Nat.mul_comm (b ^ k) b]
  omega
theorem sumN_of {f g : Nat → Nat} {b : Nat} : ∀ k, (∀ i, i < k → f i = g i) → sumN f b k = sumN g b k
 | 0, _ => rfl
 | k + 1, h => by
  show sumN f b k + f k * b ^ k = sumN g b k + g k * b ^ k
  rw [sumN_of k fun i hi => h i (by omega), h k (by omega)]
theorem sumN_digit {f : Nat → Nat} {b : Nat} (h : ∀ i, f i < b) (i : Nat) : ∀ k, i < k → sumN f b k / b ^ i % b = f i
 | 0, hk => by omega
 | k + 1, hk => by
  have hb : 0 < b := Nat.lt_of_le_of_lt (Nat.zero_le _) (h 0)
  by_cases hi : i = k
  ·subst hi
   show (sumN f b i + f i * b ^ i) / b ^ i % b = f i
   rw [Nat.add_mul_div_right _ _ (Nat.pow_pos hb), Nat.div_eq_of_lt (sumN_lt h i), Nat.zero_add, Nat.mod_eq_of_lt (h i)]
  ·have ih := sumN_digit h i k (by omega)
   show (sumN f b k + f k * b ^ k) / b ^ i % b = f i
   obtain ⟨e, rfl⟩ : ∃ e, k = i + 1 + e := ⟨k - i - 1, by omega⟩
   rw [show f (i + 1 + e) * b ^ (i + 1 + e) = f (i + 1 + e) * b ^ e * b * b ^ i by rw [Nat.pow_add, Nat.pow_succ]; grind, Nat.add_mul_div_right _ _ (Nat.pow_pos hb), Nat.add_mul_mod_self_right]
   exact ih
theorem litB_mod (n k : Nat) : litB (n % 256 ^ k) k = litB n k := by
 have h := litB_litN (litB n k)
 rw [litN_litB, litB_length] at h
 exact h
theorem litB_eq {n m k : Nat} (h : n % 256 ^ k = m % 256 ^ k) : litB n k = litB m k := by rw [← litB_mod n, h, litB_mod]
theorem litB_snoc (n m : Nat) : litB n (m + 1) = litB n m ++ [UInt8.ofNat (n / 256 ^ m % 256)] := by
 apply List.ext_getElem
 ·simp [litB_length]
 intro i h1 h2
 rw [litB_length] at h1
 rw [litB_getElem, List.getElem_append]
 split
 ·rw [litB_getElem]
 ·rename_i h
  rw [litB_length] at h
  have e : i = m := by omega
  subst e
  simp [litB_length]
/-- the first n bits of a number -/
def bitN (V n : Nat) : List Bool := (List.range n).map V.testBit
theorem bitN_length (V n : Nat) : (bitN V n).length = n := by simp [bitN]
theorem bitN_get (V n i : Nat) (h : i < (bitN V n).length) : (bitN V n)[i] = V.testBit i := by simp [bitN]
theorem bitN_snoc (V n : Nat) : bitN V (n + 1) = bitN V n ++ [V.testBit n] := by
 unfold bitN
 rw [List.range_succ, List.map_append]
 rfl
theorem bitN_of {V U n : Nat} (h : ∀ i, i < n → V.testBit i = U.testBit i) : bitN V n = bitN U n := by
 unfold bitN
 exact List.map_congr_left fun i hi => h i (List.mem_range.1 hi)
theorem bitN_mod (V n : Nat) : bitN (V % 2 ^ n) n = bitN V n := bitN_of fun i hi => by simp [Nat.testBit_mod_two_pow, hi]
theorem bits8_get (b : UInt8) (i : Nat) (h : i < (bits8 b).length) : (bits8 b)[i] = b.toNat.testBit i := by simp [bits8, bitAt_test]
theorem bitsL_bitN : ∀ bs : List UInt8, bitsL bs = bitN (litN bs) (8 * bs.length)
 | [] => rfl
 | b :: bs => by
  have ih := bitsL_bitN bs
  have e1 : bitsL (b :: bs) = bits8 b ++ bitsL bs := rfl
  have e2 : litN (b :: bs) = 2 ^ 8 * litN bs + b.toNat := by
   show b.toNat + 256 * litN bs = _ 
   omega
  rw [e1, ih, e2]
  apply List.ext_getElem
  ·simp [bits8_length, bitN_length]; omega
  intro i h1 h2
  rw [bitN_get, Nat.testBit_two_pow_mul_add _ b.toNat_lt, List.getElem_append]
  split
  ·rename_i h
   rw [bits8_length] at h
   rw [if_pos h]
   exact bits8_get _ _ _
  ·rename_i h
   rw [bits8_length] at h
   rw [if_neg h, bitN_get, bits8_length]
theorem fromBits_bitN (V m : Nat) : fromBits (bitN V (8 * m)) = litB V m := by
 have h := fromBits_bitsL (litB V m)
 rw [bitsL_bitN, litN_litB, litB_length, show (256 : Nat) = 2 ^ 8 from rfl, ← Nat.pow_mul, bitN_mod] at h
 exact h
/-- coefficient i of d bits in the number V -/
def decN (d V i : Nat) : Nat := V / 2 ^ (d * i) % 2 ^ d
theorem decN_lt (d V i : Nat) : decN d V i < 2 ^ d := Nat.mod_lt _ (Nat.two_pow_pos d)
/-- the digits of a number are its own again -/
theorem decN_sum {f : Nat → Nat} (d i k : Nat) (h : ∀ i, f i < 2 ^ d) (hi : i < k) : decN d (sumN f (2 ^ d) k) i = f i := by
 unfold decN
 rw [Nat.pow_mul]
 exact sumN_digit h i k hi
/-- a number of k digits is the sum of its digits -/
theorem sumN_decN (d V : Nat) : ∀ k, sumN (decN d V) (2 ^ d) k = V % 2 ^ (d * k)
 | 0 => by
  rw [Nat.mul_zero, Nat.pow_zero, Nat.mod_one]
  rfl
 | k + 1 => by
  show sumN (decN d V) (2 ^ d) k + decN d V k * (2 ^ d) ^ k = _
  rw [sumN_decN d V k, Nat.mul_succ, Nat.pow_add, Nat.mod_mul, ← Nat.pow_mul, Nat.mul_comm (decN d V k)]
  rfl
/-- one more coefficient: its bits stand behind the others -/
theorem sumN_bit {f : Nat → Nat} (d k j : Nat) (h : ∀ i, f i < 2 ^ d) : (sumN f (2 ^ d) (k + 1)).testBit (d * k + j) = (f k).testBit j := by
 have h1 := sumN_lt h k
 rw [← Nat.pow_mul] at h1
 show (sumN f (2 ^ d) k + f k * (2 ^ d) ^ k).testBit (d * k + j) = _
 rw [← Nat.pow_mul, Nat.add_comm, Nat.mul_comm, Nat.testBit_two_pow_mul_add _ h1, if_neg (by omega), show d * k + j - d * k = j by omega]
theorem sumN_below {f : Nat → Nat} (d k i : Nat) (h : ∀ i, f i < 2 ^ d) (hi : i < d * k) : (sumN f (2 ^ d) (k + 1)).testBit i = (sumN f (2 ^ d) k).testBit i := by
 have h1 := sumN_lt h k
 rw [← Nat.pow_mul] at h1
 show (sumN f (2 ^ d) k + f k * (2 ^ d) ^ k).testBit i = _
 rw [← Nat.pow_mul, Nat.add_comm, Nat.mul_comm, Nat.testBit_two_pow_mul_add _ h1, if_pos hi]
/-- packing: a coefficient comes in -/
theorem pack_in {f : Nat → Nat} (d k m c : Nat) (hc : c + 8 * m = d * k) : sumN f (2 ^ d) (k + 1) / 256 ^ m = sumN f (2 ^ d) k / 256 ^ m + f k * 2 ^ c ∧ litB (sumN f (2 ^ d) (k + 1)) m = litB (sumN f (2 ^ d) k) m := by
 have e : f k * (2 ^ d) ^ k = f k * 2 ^ c * 256 ^ m := by
  rw [← Nat.pow_mul, ← hc, Nat.pow_add, show (256 : Nat) = 2 ^ 8 from rfl, ← Nat.pow_mul, Nat.mul_assoc]
 have e2 : sumN f (2 ^ d) (k + 1) = sumN f (2 ^ d) k + f k * 2 ^ c * 256 ^ m := by rw [← e]; rfl
 have hp : 0 < 256 ^ m := Nat.pow_pos (by decide)
 constructor
 ·rw [e2, Nat.add_mul_div_right _ _ hp]
 ·refine litB_eq ?_
  rw [e2, Nat.add_mul_mod_self_right]
theorem pack_lt {f : Nat → Nat} (d k m c : Nat) (h : ∀ i, f i < 2 ^ d) (hc : c + 8 * m = d * k) : sumN f (2 ^ d) k / 256 ^ m < 2 ^ c := by
 have h1 := sumN_lt h k
 rw [← Nat.pow_mul, ← hc, Nat.add_comm, Nat.pow_add, show 2 ^ (8 * m) = 256 ^ m by rw [Nat.pow_mul]] at h1
 exact Nat.div_lt_of_lt_mul h1
/-- unpacking: a byte comes in -/
theorem unpack_in (V s c m : Nat) (hc : s + c = 8 * m) : V / 2 ^ s % 2 ^ (c + 8) = V / 2 ^ s % 2 ^ c + V / 256 ^ m % 256 * 2 ^ c := by
 rw [Nat.pow_add, Nat.mod_mul, Nat.div_div_eq_div_mul, ← Nat.pow_add, hc, Nat.pow_mul, Nat.mul_comm (2 ^ c)]
theorem unpack_out (V s c d : Nat) (hd : d ≤ c) : V / 2 ^ s % 2 ^ c % 2 ^ d = V / 2 ^ s % 2 ^ d ∧ V / 2 ^ s % 2 ^ c / 2 ^ d = V / 2 ^ (s + d) % 2 ^ (c - d) := by
 obtain ⟨e, rfl⟩ : ∃ e, c = d + e := ⟨c - d, by omega⟩
 constructor
 ·rw [Nat.pow_add, Nat.mod_mul_right_mod]
 ·rw [show d + e - d = e by omega, Nat.pow_add, Nat.pow_add, Nat.mod_mul_right_div_self, Nat.div_div_eq_div_mul]
theorem litN_byte (bs : List UInt8) (m : Nat) (h : m < bs.length) : litN bs / 256 ^ m % 256 = (bs[m]).toNat := by
 have h1 := litB_litN bs
 have h2 : m < (litB (litN bs) bs.length).length := by rw [litB_length]; exact h
 have h3 := litB_getElem (litN bs) bs.length m h2
 have h4 : (litB (litN bs) bs.length)[m] = bs[m] := by congr 1
 rw [h4] at h3
 rw [h3]
 simp
end Go.Proofs.Ytfcgdjgfdbcddaa

/-
 OPERATIONS of the program's own functions: numbers of 16 and 32 bits, elements of arrays by value.
-/
namespace Go.Proofs.Ytfcgdjgfdbcddaa
open Go.RowKit
set_option maxRecDepth 100000
theorem run_idx (T : TypeId) (m : Nat) (hT : Try.prog.underlying T = some (.array m 22)) (W : World) (l : List Value) (k : Nat) (v : Value) (hk : k < m) (h : l[k]? = some v) : (Instr.index T (.agg l.toArray) (.int .i64 (k : Int))).run Try.prog W = .ok v W := by
 have h2 : (0 : Int) ≤ (k : Int) ∧ (k : Int) < (m : Int) := by omega
 have h3 : (k : Int).toNat = k := by omega
 have h4 : l.toArray[k]? = some v := by simpa using h
 have h6 := Try.underlying22
 have hs : (sizeOf 22).run Try.prog W = .ok 1 W := by kernel_rfl
 simp [Instr.index, asIntOf, h2, part, isAgg, run_underlying hT, run_underlying h6, hs, h, -Int.natCast_nonneg]
 exact fun q => absurd hk (by omega)
/-- the answer is a number of 16 bits, and the world is as it was -/
def U16Is (w : World) (n : Nat) (e : Ending) (w' : World) : Prop := e = .returned (.int .u16 (n : Int)) ∧ w = w'
section
variable {a : Act} {x y : Operand} {op : Oper} {w : World}
theorem idx_poly {k : Nat} {l : List Value} {v : Value} (hk : k < 256) (h : l[k]? = some v) (ho : op.op = .index 24 x y) (hx : a.eval x = .agg l.toArray) (hy : a.eval y = .int .i64 (k : Int)) : (execOp a.eval op).run Try.prog w = .ok (.value v) w := by
 have h1 := run_idx 24 256 Try.underlying24 w l k v hk h
 unfold execOp
 simp only [ho, hx, hy]
 go_simp
theorem idx_roots {k : Nat} {l : List Value} {v : Value} (hk : k < 128) (h : l[k]? = some v) (ho : op.op = .index 48 x y) (hx : a.eval x = .agg l.toArray) (hy : a.eval y = .int .i64 (k : Int)) : (execOp a.eval op).run Try.prog w = .ok (.value v) w := by
 have h1 := run_idx 48 128 Try.underlying48 w l k v hk h
 unfold execOp
 simp only [ho, hx, hy]
 go_simp
theorem add_uu {i j k : Nat} (h : k = i + j ∧ k < 65536) (ho : op.op = .binOp .add 22 x y 22) (hx : a.eval x = .int .u16 (i : Int)) (hy : a.eval y = .int .u16 (j : Int)) : (execOp a.eval op).run Try.prog w = .ok (.value (.int .u16 (k : Int))) w := by
 have hw : IntKind.u16.wrap ((i : Int) + (j : Int)) = (k : Int) := by rw [IntKind.wrap_u16]; omega
 have hm : ((i : Int) + (j : Int)) % 65536 = (k : Int) := by omega
 clear h
 unfold execOp
 simp only [ho, hx, hy]
 go_simp
theorem sub_uu {i j k : Nat} (h : i = k + j ∧ i < 65536) (ho : op.op = .binOp .sub 22 x y 22) (hx : a.eval x = .int .u16 (i : Int)) (hy : a.eval y = .int .u16 (j : Int)) : (execOp a.eval op).run Try.prog w = .ok (.value (.int .u16 (k : Int))) w := by
 have hw : IntKind.u16.wrap ((i : Int) - (j : Int)) = (k : Int) := by rw [IntKind.wrap_u16]; omega
 have hm : ((i : Int) - (j : Int)) % 65536 = (k : Int) := by omega
 clear h
 unfold execOp
 simp only [ho, hx, hy]
 go_simp
theorem conv_u32 {n : Nat} (hn : n < 65536) (ho : op.op = .convert 22 54 x) (hx : a.eval x = .int .u16 (n : Int)) : (execOp a.eval op).run Try.prog w = .ok (.value (.int .u32 (n : Int))) w := by
 have hw : IntKind.u32.wrap (n : Int) = (n : Int) := by rw [IntKind.wrap_u32]; omega
 have hm : (n : Int) % 4294967296 = (n : Int) := by omega
 unfold execOp
 simp only [ho, hx]
 go_simp
theorem conv_32 {n k : Nat} (h : k = n % 65536) (ho : op.op = .convert 54 22 x) (hx : a.eval x = .int .u32 (n : Int)) : (execOp a.eval op).run Try.prog w = .ok (.value (.int .u16 (k : Int))) w := by
 have hw : IntKind.u16.wrap (n : Int) = (k : Int) := by rw [IntKind.wrap_u16]; omega
 have hm : (n : Int) % 65536 = (k : Int) := by omega
 clear h
 unfold execOp
 simp only [ho, hx]
 go_simp
theorem mul_32 {i j k : Nat} (h : k = i * j) (hk : k < 4294967296) (ho : op.op = .binOp .mul 54 x y 54) (hx : a.eval x = .int .u32 (i : Int)) (hy : a.eval y = .int .u32 (j : Int)) : (execOp a.eval op).run Try.prog w = .ok (.value (.int .u32 (k : Int))) w := by
 have he : (i : Int) * (j : Int) = (k : Int) := by rw [h, Int.natCast_mul]
 have hw : IntKind.u32.wrap (k : Int) = (k : Int) := by rw [IntKind.wrap_u32]; omega
 have hm : (k : Int) % 4294967296 = (k : Int) := by omega
 clear h
 unfold execOp
 simp only [ho, hx, hy]
 go_simp
theorem rem_32 {n r : Nat} (h : r = n % 3329) (hn : n < 4294967296) (ho : op.op = .binOp .rem 54 x (.const (.int .u32 3329)) 54) (hx : a.eval x = .int .u32 (n : Int)) : (execOp a.eval op).run Try.prog w = .ok (.value (.int .u32 (r : Int))) w := by
 have hc : a.eval (.const (.int .u32 3329)) = .int .u32 3329 := rfl
 have e : (n : Int).tmod 3329 = (r : Int) := by rw [Int.tmod_eq_emod_of_nonneg (by omega)]; omega
 have e2 : (n : Int) % 3329 = (r : Int) := by omega
 have hw : IntKind.u32.wrap (r : Int) = (r : Int) := by rw [IntKind.wrap_u32]; omega
 have hm : (r : Int) % 4294967296 = (r : Int) := by omega
 clear h
 unfold execOp
 simp only [ho, hx, hc]
 go_simp
theorem add_32 {i j k : Nat} (h : k = i + j ∧ k < 4294967296) (ho : op.op = .binOp .add 54 x y 54) (hx : a.eval x = .int .u32 (i : Int)) (hy : a.eval y = .int .u32 (j : Int)) : (execOp a.eval op).run Try.prog w = .ok (.value (.int .u32 (k : Int))) w := by
 have hw : IntKind.u32.wrap ((i : Int) + (j : Int)) = (k : Int) := by rw [IntKind.wrap_u32]; omega
 have hm : ((i : Int) + (j : Int)) % 4294967296 = (k : Int) := by omega
 clear h
 unfold execOp
 simp only [ho, hx, hy]
 go_simp
theorem quo_32q {n r : Nat} (h : r = n / 3329) (hn : n < 4294967296) (ho : op.op = .binOp .quo 54 x (.const (.int .u32 3329)) 54) (hx : a.eval x = .int .u32 (n : Int)) : (execOp a.eval op).run Try.prog w = .ok (.value (.int .u32 (r : Int))) w := by
 have hc : a.eval (.const (.int .u32 3329)) = .int .u32 3329 := rfl
 have e : (n : Int).tdiv 3329 = (r : Int) := by rw [Int.tdiv_eq_ediv_of_nonneg (by omega)]; omega
 have e2 : (n : Int) / 3329 = (r : Int) := by omega
 have hw : IntKind.u32.wrap (r : Int) = (r : Int) := by rw [IntKind.wrap_u32]; omega
 have hm : (r : Int) % 4294967296 = (r : Int) := by omega
 clear h
 unfold execOp
 simp only [ho, hx, hc]
 go_simp
/-- a shift to the left by d: times 2 to the d -/
theorem shl_32 {n d k : Nat} (h : k = n * 2 ^ d) (hd : d ≤ 31) (hk : k < 4294967296) (ho : op.op = .binOp .shl 54 x y 3) (hx : a.eval x = .int .u32 (n : Int)) (hy : a.eval y = .int .i64 (d : Int)) : (execOp a.eval op).run Try.prog w = .ok (.value (.int .u32 (k : Int))) w := by
 have h1 : ¬ (d : Int) < 0 := by omega
 have h2 : (d : Int).toNat = d := by omega
 have he : (n : Int) * 2 ^ d = (k : Int) := by rw [h, Int.natCast_mul, Int.natCast_pow]; rfl
 have hw : IntKind.u32.wrap (k : Int) = (k : Int) := by rw [IntKind.wrap_u32]; omega
 have hm : (k : Int) % 4294967296 = (k : Int) := by omega
 have h3 : d < 32 := by omega
 clear h
 unfold execOp
 simp only [ho, hx, hy]
 go_simp
theorem shr_32 {n d k : Nat} (h : k = n / 2 ^ d) (hd : d ≤ 31) (hn : n < 4294967296) (ho : op.op = .binOp .shr 54 x y 3) (hx : a.eval x = .int .u32 (n : Int)) (hy : a.eval y = .int .i64 (d : Int)) : (execOp a.eval op).run Try.prog w = .ok (.value (.int .u32 (k : Int))) w := by
 have h1 : ¬ (d : Int) < 0 := by omega
 have h2 : (d : Int).toNat = d := by omega
 have hk : k ≤ n := by rw [h]; exact Nat.div_le_self _ _
 have he : (n : Int) / 2 ^ d = (k : Int) := by rw [h, Int.natCast_ediv, Int.natCast_pow]; rfl
 have hw : IntKind.u32.wrap (k : Int) = (k : Int) := by rw [IntKind.wrap_u32]; omega
 have hm : (k : Int) % 4294967296 = (k : Int) := by omega
 have h3 : d < 32 := by omega
 clear h
 unfold execOp
 simp only [ho, hx, hy]
 go_simp
end
end Go.Proofs.Ytfcgdjgfdbcddaa

/-
 THE PROGRAM'S OWN sum, difference, product, low, ones, rev.
-/
namespace Go.Proofs.Ytfcgdjgfdbcddaa
open Go.RowKit
set_option maxRecDepth 100000
theorem sum_any (i j : Nat) (h : i + j < 65536) (w : World) : Calls Try.prog 43 #[.int .u16 (i : Int), .int .u16 (j : Int)] w (U16Is w ((i + j) % 3329)) := by
 unfold U16Is
 have HR : Shh ((IntKind.u16.wrap ((i : Int) + (j : Int))).tmod 3329 = (((i + j) % 3329 : Nat) : Int)) := ⟨by
  rw [IntKind.wrap_u16, Int.tmod_eq_emod_of_nonneg (by omega)]
  omega⟩
 clear h
 generalize (i + j) % 3329 = r at *
 go_enter Try.func43, Try.ntmps43
 go_wp2
 go_ret
 exact ⟨ret_int HR.out, rfl⟩
theorem difference_any (i j : Nat) (h : i < 60000 ∧ j ≤ i + 3329) (w : World) : Calls Try.prog 44 #[.int .u16 (i : Int), .int .u16 (j : Int)] w (U16Is w ((i + 3329 - j) % 3329)) := by
 unfold U16Is
 have HR : Shh ((IntKind.u16.wrap (IntKind.u16.wrap ((i : Int) + 3329) - (j : Int))).tmod 3329 = (((i + 3329 - j) % 3329 : Nat) : Int)) := ⟨by
  rw [IntKind.wrap_u16, IntKind.wrap_u16, Int.tmod_eq_emod_of_nonneg (by omega)]
  omega⟩
 clear h
 generalize (i + 3329 - j) % 3329 = r at *
 go_enter Try.func44, Try.ntmps44
 go_wp2
 go_ret
 exact ⟨ret_int HR.out, rfl⟩
theorem product_any (i j : Nat) (h : i < 65536 ∧ j < 65536) (w : World) : Calls Try.prog 46 #[.int .u16 (i : Int), .int .u16 (j : Int)] w (U16Is w (i * j % 3329)) := by
 unfold U16Is
 have HR : Shh ((i : Int) % 4294967296 * ((j : Int) % 4294967296) % 4294967296 % 3329 = ((i * j % 3329 : Nat) : Int)) := ⟨by
  have h1 : i * j < 4294967296 := Nat.lt_of_le_of_lt (Nat.mul_le_mul (Nat.le_of_lt_succ h.1) (Nat.le_of_lt_succ h.2)) (by decide)
  rw [show (i : Int) % 4294967296 = i by omega, show (j : Int) % 4294967296 = j by omega, ← Int.natCast_mul]
  omega⟩
 clear h
 generalize i * j % 3329 = r at *
 go_enter Try.func46, Try.ntmps46
 go_wp2
 go_ret
 exact ⟨ret_int HR.out, rfl⟩
theorem and_low (n d : Nat) (hn : n < 65536) (hd : d ≤ 16) : bits .and .u16 (n : Int) ((2 ^ d - 1 : Nat) : Int) = ((n % 2 ^ d : Nat) : Int) := by
 have h2 : 2 ^ d ≤ 65536 := Nat.le_trans (Nat.pow_le_pow_right (by decide) hd) (by decide)
 have h0 := Nat.two_pow_pos d
 rw [(bits_nat .u16 16 (by decide) (fun m h0 h1 => by rw [IntKind.wrap_u16]; omega) n (2 ^ d - 1) hn (by omega)).1, Nat.and_two_pow_sub_one_eq_mod]
theorem low_any (d n : Nat) (hd : d ≤ 16) (hn : n < 65536) (w : World) : Calls Try.prog 49 #[.int .i64 (d : Int), .int .u16 (n : Int)] w (U16Is w (n % 2 ^ d)) := by
 unfold U16Is
 have HA : Shh (bits .and .u16 (n : Int) (IntKind.u16.wrap (IntKind.u16.wrap (2 ^ min d 16) - 1)) = ((n % 2 ^ d : Nat) : Int)) := ⟨by
  have h2 : 2 ^ d ≤ 65536 := Nat.le_trans (Nat.pow_le_pow_right (by decide) hd) (by decide)
  have h0 := Nat.two_pow_pos d
  rw [← and_low n d hn hd, show min d 16 = d by omega, show ((2 : Int) ^ d) = ((2 ^ d : Nat) : Int) by rw [Int.natCast_pow]; rfl]
  congr 1
  rw [IntKind.wrap_u16, IntKind.wrap_u16]
  generalize 2 ^ d = P at *
  omega⟩
 generalize n % 2 ^ d = r at *
 have h1 : ¬ (d : Int) < 0 := by omega
 clear hd hn
 go_enter Try.func49, Try.ntmps49
 go_wp2
 go_ret
 exact ⟨ret_int HA.out, rfl⟩
theorem rev8_is : ((List.range 128).all fun i => decide (Lib.rev8 (i : Int) / 2 = (rvN i : Int))) = true := by decide +kernel
theorem rev_prog (i : Nat) (hi : i < 128) (w : World) : Calls Try.prog 57 #[.int .i64 (i : Int)] w (NumIs w (rvN i)) := by
 unfold NumIs
 have HR : Shh (wrap64 (Lib.rev8 (i : Int) / 2) = (rvN i : Int)) := ⟨by
  have h := List.all_eq_true.1 rev8_is i (List.mem_range.2 hi)
  have h2 := rv_lt i hi
  simp only [decide_eq_true_eq] at h
  rw [h]
  unfold wrap64
  omega⟩
 have HB : (0 : Int) ≤ (i : Int) ∧ (i : Int) ≤ 255 := by omega
 have hw : (i : Int) % 256 = (i : Int) := by omega
 generalize rvN i = r at *
 go_enter Try.func57, Try.ntmps57
 go_wp2
 go_ret
 exact ⟨ret_int HR.out, rfl⟩
end Go.Proofs.Ytfcgdjgfdbcddaa

/-
 THE PROGRAM'S OWN roots: an array of 128 numbers.
-/
namespace Go.Proofs.Ytfcgdjgfdbcddaa
open Go.RowKit
set_option maxRecDepth 100000
/-- n numbers of 16 bits in memory -/
def uc (n : Nat) (f : Nat → Nat) : List Value := (List.range n).map fun i => .int .u16 (f i : Int)
theorem uc_length (n : Nat) (p : Nat → Nat) : (uc n p).length = n := by simp [uc]
theorem uc_get {n : Nat} (p : Nat → Nat) {k : Nat} (h : k < n) : (uc n p)[k]? = some (.int .u16 (p k : Int)) := by
 unfold uc
 rw [List.getElem?_map, List.getElem?_range h]
 rfl
theorem uc_of {n : Nat} {p r : Nat → Nat} (h : ∀ i, i < n → p i = r i) : uc n p = uc n r := by
 unfold uc
 exact List.map_congr_left fun i hi => by rw [h i (List.mem_range.1 hi)]
theorem uc_set (n : Nat) (p : Nat → Nat) (k v : Nat) : (uc n p).set k (.int .u16 (v : Int)) = uc n (upd p k v) := by
 apply List.ext_getElem?
 intro i
 rw [List.getElem?_set]
 by_cases hi : i < n
 ·rw [uc_get _ hi]
  by_cases h : k = i
  ·subst h
   rw [if_pos rfl, if_pos (by rw [uc_length]; exact hi), uc_get _ hi]
   unfold upd
   rw [if_pos rfl]
  ·rw [if_neg h, uc_get _ hi]
   unfold upd
   rw [if_neg (fun q => h q.symm)]
 ·rw [List.getElem?_eq_none (l := uc n (upd p k v)) (by rw [uc_length]; omega)]
  by_cases h : k = i
  ·rw [if_pos h, if_neg (by rw [uc_length]; omega)]
  ·rw [if_neg h, List.getElem?_eq_none (by rw [uc_length]; omega)]
theorem uc_one (n : Nat) (p : Nat → Nat) : ∀ u ∈ uc n p, u.oneCell' = true := by
 intro u hu
 unfold uc at hu
 obtain ⟨i, _, rfl⟩ := List.mem_map.1 hu
 rfl
theorem info_roots : (Try.prog.info? 48).map (·.size) = some 128 := by kernel_rfl
theorem size_uc (n : Nat) (p : Nat → Nat) : some n = some (uc n p).length := by rw [uc_length]
theorem zero_roots (W : World) : (zeroValue 48).run Try.prog W = .ok (.agg (uc 128 fun _ => 0).toArray) W := by kernel_rfl
section
variable {ops : Array Oper} {rest : List Oper} {o : Oper} {a : Act} {w : World} {Q : Exit → Act → World → Prop} {x y : Operand} {op : Oper}
theorem wl_allocR (hgd : o.guard = none) (ho : o.op = .alloc 48) (h : wpList Try.prog ops Q rest (a.put o.dst (.pointer (some ⟨w.heap.size, 0, none⟩))) (w.alloc (.cells (uc 128 fun _ => 0).toArray 48))) : wpList Try.prog ops Q (o :: rest) a w := by
 refine wl_valueW (.pointer (some ⟨w.heap.size, 0, none⟩)) (w.alloc (.cells (uc 128 fun _ => 0).toArray 48)) hgd ?_ h
 have hz := zero_roots w
 unfold execOp
 simp only [ho]
 generalize uc 128 (fun _ => 0) = z at *
 go_simp
theorem at_roots {g k : Nat} (hk : k < 128) (ho : op.op = .indexAddr 48 x y) (hx : a.eval x = .pointer (some ⟨g, 0, none⟩)) (hy : a.eval y = .int .i64 (k : Int)) : (execOp a.eval op).run Try.prog w = .ok (.value (.pointer (some ⟨g, k, none⟩))) w := by
 have h1 : (k : Int) < 128 := by omega
 have h2 : (0 : Int) ≤ (k : Int) := by omega
 unfold execOp
 simp only [ho, hx, hy]
 go_simp
theorem wl_storeU {g k v n : Nat} {T : TypeId} {q : Nat → Nat} (hgd : o.guard = none) (hk : k < n) (ho : o.op = .store 22 x y) (hx : a.eval x = .pointer (some ⟨g, k, none⟩)) (hy : a.eval y = .int .u16 (v : Int)) (hr : Row w g T (uc n q))
 (h : ∀ w2, Row w2 g T (uc n (upd q k v)) → But w.heap.size g w w2 → w2.heap.size = w.heap.size → wpList Try.prog ops Q rest (a.put o.dst undef) w2) : wpList Try.prog ops Q (o :: rest) a w := by
 have hc := hr.cell k
 rw [uc_get _ hk] at hc
 have hf := hr.free k
 have hs := hr.set_ k (.int .u16 (v : Int))
 rw [uc_set] at hs
 refine wpList_plain hgd fun K hK => ?_
 unfold Oper.wp
 rw [show (execOp a.eval o).run Try.prog w = .ok .skip (w.setCell ⟨g, k, none⟩ (.int .u16 (v : Int))) from by
  unfold execOp
  simp only [ho, hx, hy]
  go_simp]
 exact hK _ _ (h _ hs ((But.refl _ _ _).setCell _ _) (by simp [World.setCell]))
end
/-- what is laid after k rounds -/
def rtS (k i : Nat) : Nat := if rvN i < k then wN i else 0
theorem rtS_zero : uc 128 (rtS 0) = uc 128 fun _ => 0 := uc_of fun i _ => if_neg (by omega)
theorem rtS_all : uc 128 (rtS 128) = uc 128 wN := uc_of fun i hi => if_pos (rv_lt i hi)
theorem rtS_next (k : Nat) (hk : k < 128) : uc 128 (upd (rtS k) (rvN k) (17 ^ k % 3329)) = uc 128 (rtS (k + 1)) := uc_of fun i hi => by
 unfold upd rtS
 by_cases h : i = rvN k
 ·have e : rvN i = k := by rw [h]; exact rv_rv k hk
  rw [if_pos h, e, if_pos (by omega)]
  unfold wN
  rw [e]
 ·have e : rvN i ≠ k := fun q => h (by rw [← q]; exact (rv_rv i hi).symm)
  rw [if_neg h]
  by_cases h2 : rvN i < k
  ·rw [if_pos h2, if_pos (by omega)]
  ·rw [if_neg h2, if_neg (by omega)]
/-- the answer is the roots -/
def RootsIs (w : World) (e : Ending) (w' : World) : Prop := e = .returned (.agg (uc 128 wN).toArray) ∧ Below w.heap.size w w'
set_option maxHeartbeats 1000000 in
theorem roots_any (w : World) : Calls Try.prog 45 #[] w (RootsIs w) := by
 unfold RootsIs
 generalize hN : w.heap.size = N at *
 have HL := Shh.mk rtS_all
 generalize uc 128 wN = fin at *
 go_enter Try.func45, Try.ntmps45
 go_wp2_with (refine wl_allocR rfl rfl ?_)
 obtain ⟨W, hW⟩ : ∃ W, W = (w.alloc (.cells (uc 128 fun _ => 0).toArray 48)).alloc (.cells (uc 128 fun _ => 0).toArray 48) := ⟨_, rfl⟩
 have HW : Shh (Row W N 48 (uc 128 fun _ => 0) ∧ Row W (N + 1) 48 (uc 128 fun _ => 0) ∧ Below N w W) := by
  refine ⟨by rw [hW]; exact (Row.new_ hN.symm rfl).alloc _, by rw [hW]; exact Row.new_ (by rw [asz, hN]) rfl, ?_⟩
  rw [hW, ← hN]
  exact Below.chain (bel1 _ _) (bel1 _ _)
 try simp only [asz, hN]
 rw [← hW]
 clear hW
 go_wp2
 go_loopw [2, 3, 4] (fun p _ i wr => ∃ k : Nat, k ≤ 128 ∧ i = .int .i64 (k : Int) ∧ p = .int .u16 ((17 ^ k % 3329 : Nat) : Int) ∧ Shh (Row wr N 48 (uc 128 fun _ => 0) ∧ Row wr (N + 1) 48 (uc 128 (rtS k)) ∧ Below N w wr)) (fun _ _ i _ => 128 - (intOf i).toNat)
 case atStart => exact ⟨0, Nat.zero_le _, rfl, rfl, ⟨by rw [rtS_zero]; exact HW.out⟩⟩
 case round =>
  clear HW
  obtain ⟨k, hk, rfl, rfl, HI⟩ := hrel
  by_cases hlt : k < 128
  ·have hlt2 : (k : Int) < 128 := by omega
   have HN2 := Shh.mk (rtS_next k hlt)
   have HP : Shh (17 ^ k % 3329 < 3329 ∧ 17 ^ (k + 1) % 3329 = 17 ^ k % 3329 * 17 % 3329) := ⟨Nat.mod_lt _ (by decide), by rw [Nat.pow_succ, Nat.mod_mul_mod]⟩
   have HV := Shh.mk (rv_lt k hlt)
   have HRV := Shh.mk (fun W => rev_prog k hlt W)
   generalize rvN k = v at *
   have hv2 : (v : Int) < 128 := by have := HV.out; omega
   obtain ⟨p, Hp⟩ : ∃ p, Shh (p = 17 ^ k % 3329) := ⟨_, ⟨rfl⟩⟩
   rw [← Hp.out] at HN2 HP ⊢
   have HPR := Shh.mk (fun W => product_any p 17 ⟨by have := HP.out.1; omega, by decide⟩ W)
   obtain ⟨p2, Hp2⟩ : ∃ p2, Shh (p2 = p * 17 % 3329) := ⟨_, ⟨rfl⟩⟩
   rw [← Hp2.out] at HPR HP
   unfold NumIs at HRV
   unfold U16Is at HPR
   clear Hp
   go_wp2_with (go_at_call 57; refine (HRV.out _).mono ?_)
   rintro e w2 ⟨rfl, rfl⟩
   go_wp2_with (first | refine wl_at 10 rfl (.pointer (some ⟨N + 1, v, none⟩)) rfl (at_roots HV.out rfl rfl rfl) ?_ | refine wl_storeU rfl HV.out rfl rfl rfl HI.out.2.1 ?_)
   intro w3 r3 b3 z3
   rw [HN2.out] at r3
   have HI3 : Shh (Row w3 N 48 (uc 128 fun _ => 0) ∧ Row w3 (N + 1) 48 (uc 128 (rtS (k + 1))) ∧ Below N w w3) := ⟨b3.row HI.out.1 HI.out.1.lt (by omega), r3, HI.out.2.2.trans (b3.under (Nat.le_of_lt HI.out.1.lt) (by omega))⟩
   clear r3 b3 z3 HI
   go_wp2_with (go_at_call 46; refine (HPR.out _).mono ?_)
   rintro e w2 ⟨rfl, rfl⟩
   go_wp2
   go_roundw
   case rel => exact ⟨k + 1, by omega, by go_num, by rw [HP.out.2], HI3⟩
   case measure => simp [intOf]; omega
  ·have hlt2 : ¬ (k : Int) < 128 := by omega
   have HI2 : Shh (Row wr N 48 (uc 128 fun _ => 0) ∧ Row wr (N + 1) 48 fin ∧ Below N w wr) := ⟨by
    have h := HI.out
    rw [show k = 128 by omega, HL.out] at h
    exact h⟩
   have HFI : Shh ((Try.prog.info? 48).map (·.size) = some fin.length ∧ fin.length = (uc 128 fun _ => 0).length ∧ ∀ u ∈ fin, u.oneCell' = true) := by
    rw [← HL.out]
    exact ⟨info_roots.trans (size_uc _ _), by rw [uc_length, uc_length], uc_one _ _⟩
   clear HI HL
   go_wp2_with (first
    | refine wpList_load_any rfl 48 (.tmp 1) rfl (N + 1) rfl 48 fin (.array 128 22) HI2.out.2.1 Try.underlying48 rfl HFI.out.1 ?_
    | refine wpList_store_any rfl 48 (.tmp 0) (.tmp 14) rfl N rfl fin rfl 48 _ HI2.out.1 HFI.out.1 HFI.out.2.1.symm HFI.out.2.2 ?_)
   intro w9 hr9 b9 _
   have hb9 := HI2.out.2.2.trans (b9.under (Nat.le_of_lt HI2.out.1.lt) (Nat.le_refl _))
   go_wp2
   exact ret_row Try.results45 rfl rfl hr9 Try.underlying48 rfl HFI.out.1 ⟨rfl, hb9⟩
end Go.Proofs.Ytfcgdjgfdbcddaa

/-
 THE PROGRAM'S OWN Reduce.
-/
namespace Go.Proofs.Ytfcgdjgfdbcddaa
open Go.RowKit
set_option maxRecDepth 100000
set_option maxHeartbeats 1000000 in
theorem Reduce_any (p : Nat → Nat) (hp : ∀ i, i < 256 → p i < 65536) (w : World) : Calls Try.prog 14 #[polyV p] w (PolyIs w (redN p)) := by
 unfold PolyIs polyV
 generalize hN : w.heap.size = N at *
 have HP := Shh.mk hp
 have HR : Shh (∀ i, redN p i = p i % 3329) := ⟨fun i => rd_same _⟩
 generalize redN p = r at *
 clear hp
 have HL0 : Shh (Row ((w.alloc (.cells (pc p).toArray 24)).alloc (.cells (pc fun _ => 0).toArray 24)) N 24 (pc p)) := ⟨(Row.new_ hN.symm rfl).alloc _⟩
 go_enter Try.func14, Try.ntmps14
 go_wp2_with (first | refine wl_allocP rfl rfl ?_ | refine wpList_load_any rfl 24 (.tmp 1) rfl N rfl 24 (pc p) (.array 256 22) HL0.out Try.underlying24 rfl (info_poly.trans (size_poly p)) ?_)
 obtain ⟨W, hW⟩ : ∃ W, W = (w.alloc (.cells (pc p).toArray 24)).alloc (.cells (pc fun _ => 0).toArray 24) := ⟨_, rfl⟩
 have HW : Shh (Row W N 24 (pc p) ∧ Row W (N + 1) 24 (pc fun _ => 0) ∧ Below N w W) := by
  refine ⟨by rw [hW]; exact (Row.new_ hN.symm rfl).alloc _, by rw [hW]; exact Row.new_ (by rw [asz, hN]) rfl, ?_⟩
  rw [hW, ← hN]
  exact Below.chain (bel1 _ _) (bel1 _ _)
 try simp only [asz, hN]
 rw [← hW]
 clear hW HL0
 go_loopw [3, 4, 6] (fun _ _ i wr => ∃ k : Nat, k ≤ 256 ∧ i = .int .i64 (k : Int) ∧ Shh (Row wr N 24 (pc (half r p k)) ∧ Row wr (N + 1) 24 (pc fun _ => 0) ∧ Below N w wr)) (fun _ _ i _ => 256 - (intOf i).toNat)
 case atStart => exact ⟨0, Nat.zero_le _, rfl, ⟨by rw [half_zero]; exact HW.out⟩⟩
 case round =>
  clear HW
  obtain ⟨k, hk, rfl, HI⟩ := hrel
  by_cases hlt : k < 256
  ·have HE : Shh (r k = p k % 3329 ∧ p k < 65536) := ⟨HR.out k, HP.out k hlt⟩
   have HN2 := Shh.mk (half_next r p k)
   have HG := Shh.mk (pc_get p hlt)
   generalize r k = rk at *
   generalize p k = pk at *
   have hlt2 : (k : Int) < 256 := by omega
   go_wp2_with (first | refine wl_at 9 rfl (.int .u16 (pk : Int)) rfl (idx_poly hlt HG.out rfl rfl rfl) ?_ | refine wl_at 12 rfl (.int .u16 (rk : Int)) rfl (rem_u16 HE.out.1 HE.out.2 rfl rfl) ?_ | refine wl_at 13 rfl (.pointer (some ⟨N, k, none⟩)) rfl (at_poly hlt rfl rfl rfl) ?_ | refine wl_storeP rfl hlt rfl rfl rfl HI.out.1 ?_)
   intro w3 r3 b3 z3
   rw [HN2.out] at r3
   have HI3 : Shh (Row w3 N 24 (pc (half r p (k + 1))) ∧ Row w3 (N + 1) 24 (pc fun _ => 0) ∧ Below N w w3) := ⟨r3, b3.row HI.out.2.1 HI.out.2.1.lt (by omega), HI.out.2.2.trans (b3.under (Nat.le_of_lt HI.out.1.lt) (by omega))⟩
   clear r3 b3 z3 HI
   go_wp2
   go_roundw
   case rel => exact ⟨k + 1, by omega, by go_num, HI3⟩
   case measure => simp [intOf]; omega
  ·have HL : Shh (pc (half r p k) = pc r) := ⟨by rw [show k = 256 by omega]; exact half_all _ _⟩
   rw [HL.out] at HI
   have hlt2 : ¬ (k : Int) < 256 := by omega
   clear HL HP HR
   go_wp2_with (first
    | refine wpList_load_any rfl 24 (.tmp 1) rfl N rfl 24 (pc r) (.array 256 22) HI.out.1 Try.underlying24 rfl (info_poly.trans (size_poly r)) ?_
    | refine wpList_store_any rfl 24 (.tmp 2) (.tmp 15) rfl (N + 1) rfl (pc r) rfl 24 _ HI.out.2.1 (info_poly.trans (size_poly r)) (by rw [pc_length, pc_length]) (pc_one r) ?_)
   intro w9 hr9 b9 _
   have hb9 := HI.out.2.2.trans (b9.under (Nat.le_of_lt HI.out.1.lt) (Nat.le_succ _))
   go_wp2
   exact ret_row Try.results14 rfl rfl hr9 Try.underlying24 rfl (info_poly.trans (size_poly r)) ⟨rfl, hb9⟩
end Go.Proofs.Ytfcgdjgfdbcddaa
