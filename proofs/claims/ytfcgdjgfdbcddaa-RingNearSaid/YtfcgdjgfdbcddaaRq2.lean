/-
 THE PROGRAM'S OWN roots: an array of 128 numbers.
-/
import Derived.Test.YtfcgdjgfdbcddaaRq1
import Derived.Test.YtfcgdjgfdbcddaaRg7
namespace Go.Proofs.Ytfcgdjgfdbcddaa
open Go.RowKit
set_option maxRecDepth 100000
/-- n numbers of 16 bits in memory -/
def uc (n : Nat) (f : Nat → Nat) : List Value := (List.range n).map fun i => .int .u16 (f i : Int)
theorem uc_length (n : Nat) (p : Nat → Nat) : (uc n p).length = n := by simp [uc]
theorem uc_get {n : Nat} (p : Nat → Nat) {k : Nat} (h : k < n) : (uc n p)[k]? = some (.int .u16 (p k : Int)) := by
 unfold uc
 rw [List.getElem?_map, List.getElem?_range h]
 rfl
theorem uc_of {n : Nat} {p r : Nat → Nat} (h : ∀ i, i < n → p i = r i) : uc n p = uc n r := by
 unfold uc
 exact List.map_congr_left fun i hi => by rw [h i (List.mem_range.1 hi)]
theorem uc_set (n : Nat) (p : Nat → Nat) (k v : Nat) : (uc n p).set k (.int .u16 (v : Int)) = uc n (upd p k v) := by
 apply List.ext_getElem?
 intro i
 rw [List.getElem?_set]
 by_cases hi : i < n
 ·rw [uc_get _ hi]
  by_cases h : k = i
  ·subst h
   rw [if_pos rfl, if_pos (by rw [uc_length]; exact hi), uc_get _ hi]
   unfold upd
   rw [if_pos rfl]
  ·rw [if_neg h, uc_get _ hi]
   unfold upd
   rw [if_neg (fun q => h q.symm)]
 ·rw [List.getElem?_eq_none (l := uc n (upd p k v)) (by rw [uc_length]; omega)]
  by_cases h : k = i
  ·rw [if_pos h, if_neg (by rw [uc_length]; omega)]
  ·rw [if_neg h, List.getElem?_eq_none (by rw [uc_length]; omega)]
theorem uc_one (n : Nat) (p : Nat → Nat) : ∀ u ∈ uc n p, u.oneCell' = true := by
 intro u hu
 unfold uc at hu
 obtain ⟨i, _, rfl⟩ := List.mem_map.1 hu
 rfl
theorem info_roots : (Try.prog.info? 48).map (·.size) = some 128 := by kernel_rfl
theorem size_uc (n : Nat) (p : Nat → Nat) : some n = some (uc n p).length := by rw [uc_length]
theorem zero_roots (W : World) : (zeroValue 48).run Try.prog W = .ok (.agg (uc 128 fun _ => 0).toArray) W := by kernel_rfl
section
variable {ops : Array Oper} {rest : List Oper} {o : Oper} {a : Act} {w : World} {Q : Exit → Act → World → Prop} {x y : Operand} {op : Oper}
theorem wl_allocR (hgd : o.guard = none) (ho : o.op = .alloc 48) (h : wpList Try.prog ops Q rest (a.put o.dst (.pointer (some ⟨w.heap.size, 0, none⟩))) (w.alloc (.cells (uc 128 fun _ => 0).toArray 48))) : wpList Try.prog ops Q (o :: rest) a w := by
 refine wl_valueW (.pointer (some ⟨w.heap.size, 0, none⟩)) (w.alloc (.cells (uc 128 fun _ => 0).toArray 48)) hgd ?_ h
 have hz := zero_roots w
 unfold execOp
 simp only [ho]
 generalize uc 128 (fun _ => 0) = z at *
 go_simp
theorem at_roots {g k : Nat} (hk : k < 128) (ho : op.op = .indexAddr 48 x y) (hx : a.eval x = .pointer (some ⟨g, 0, none⟩)) (hy : a.eval y = .int .i64 (k : Int)) : (execOp a.eval op).run Try.prog w = .ok (.value (.pointer (some ⟨g, k, none⟩))) w := by
 have h1 : (k : Int) < 128 := by omega
 have h2 : (0 : Int) ≤ (k : Int) := by omega
 unfold execOp
 simp only [ho, hx, hy]
 go_simp
theorem wl_storeU {g k v n : Nat} {T : TypeId} {q : Nat → Nat} (hgd : o.guard = none) (hk : k < n) (ho : o.op = .store 22 x y) (hx : a.eval x = .pointer (some ⟨g, k, none⟩)) (hy : a.eval y = .int .u16 (v : Int)) (hr : Row w g T (uc n q))
 (h : ∀ w2, Row w2 g T (uc n (upd q k v)) → But w.heap.size g w w2 → w2.heap.size = w.heap.size → wpList Try.prog ops Q rest (a.put o.dst undef) w2) : wpList Try.prog ops Q (o :: rest) a w := by
 have hc := hr.cell k
 rw [uc_get _ hk] at hc
 have hf := hr.free k
 have hs := hr.set_ k (.int .u16 (v : Int))
 rw [uc_set] at hs
 refine wpList_plain hgd fun K hK => ?_
 unfold Oper.wp
 rw [show (execOp a.eval o).run Try.prog w = .ok .skip (w.setCell ⟨g, k, none⟩ (.int .u16 (v : Int))) from by
  unfold execOp
  simp only [ho, hx, hy]
  go_simp]
 exact hK _ _ (h _ hs ((But.refl _ _ _).setCell _ _) (by simp [World.setCell]))
end
/-- what is laid after k rounds -/
def rtS (k i : Nat) : Nat := if rvN i < k then wN i else 0
theorem rtS_zero : uc 128 (rtS 0) = uc 128 fun _ => 0 := uc_of fun i _ => if_neg (by omega)
theorem rtS_all : uc 128 (rtS 128) = uc 128 wN := uc_of fun i hi => if_pos (rv_lt i hi)
theorem rtS_next (k : Nat) (hk : k < 128) : uc 128 (upd (rtS k) (rvN k) (17 ^ k % 3329)) = uc 128 (rtS (k + 1)) := uc_of fun i hi => by
 unfold upd rtS
 by_cases h : i = rvN k
 ·have e : rvN i = k := by rw [h]; exact rv_rv k hk
  rw [if_pos h, e, if_pos (by omega)]
  unfold wN
  rw [e]
 ·have e : rvN i ≠ k := fun q => h (by rw [← q]; exact (rv_rv i hi).symm)
  rw [if_neg h]
  by_cases h2 : rvN i < k
  ·rw [if_pos h2, if_pos (by omega)]
  ·rw [if_neg h2, if_neg (by omega)]
/-- the answer is the roots -/
def RootsIs (w : World) (e : Ending) (w' : World) : Prop := e = .returned (.agg (uc 128 wN).toArray) ∧ Below w.heap.size w w'
set_option maxHeartbeats 1000000 in
theorem roots_any (w : World) : Calls Try.prog 45 #[] w (RootsIs w) := by
 unfold RootsIs
 generalize hN : w.heap.size = N at *
 have HL := Shh.mk rtS_all
 generalize uc 128 wN = fin at *
 go_enter Try.func45, Try.ntmps45
 go_wp2_with (refine wl_allocR rfl rfl ?_)
 obtain ⟨W, hW⟩ : ∃ W, W = (w.alloc (.cells (uc 128 fun _ => 0).toArray 48)).alloc (.cells (uc 128 fun _ => 0).toArray 48) := ⟨_, rfl⟩
 have HW : Shh (Row W N 48 (uc 128 fun _ => 0) ∧ Row W (N + 1) 48 (uc 128 fun _ => 0) ∧ Below N w W) := by
  refine ⟨by rw [hW]; exact (Row.new_ hN.symm rfl).alloc _, by rw [hW]; exact Row.new_ (by rw [asz, hN]) rfl, ?_⟩
  rw [hW, ← hN]
  exact Below.chain (bel1 _ _) (bel1 _ _)
 try simp only [asz, hN]
 rw [← hW]
 clear hW
 go_wp2
 go_loopw [2, 3, 4] (fun p _ i wr => ∃ k : Nat, k ≤ 128 ∧ i = .int .i64 (k : Int) ∧ p = .int .u16 ((17 ^ k % 3329 : Nat) : Int) ∧ Shh (Row wr N 48 (uc 128 fun _ => 0) ∧ Row wr (N + 1) 48 (uc 128 (rtS k)) ∧ Below N w wr)) (fun _ _ i _ => 128 - (intOf i).toNat)
 case atStart => exact ⟨0, Nat.zero_le _, rfl, rfl, ⟨by rw [rtS_zero]; exact HW.out⟩⟩
 case round =>
  clear HW
  obtain ⟨k, hk, rfl, rfl, HI⟩ := hrel
  by_cases hlt : k < 128
  ·have hlt2 : (k : Int) < 128 := by omega
   have HN2 := Shh.mk (rtS_next k hlt)
   have HP : Shh (17 ^ k % 3329 < 3329 ∧ 17 ^ (k + 1) % 3329 = 17 ^ k % 3329 * 17 % 3329) := ⟨Nat.mod_lt _ (by decide), by rw [Nat.pow_succ, Nat.mod_mul_mod]⟩
   have HV := Shh.mk (rv_lt k hlt)
   have HRV := Shh.mk (fun W => rev_prog k hlt W)
   generalize rvN k = v at *
   have hv2 : (v : Int) < 128 := by have := HV.out; omega
   obtain ⟨p, Hp⟩ : ∃ p, Shh (p = 17 ^ k % 3329) := ⟨_, ⟨rfl⟩⟩
   rw [← Hp.out] at HN2 HP ⊢
   have HPR := Shh.mk (fun W => product_any p 17 ⟨by have := HP.out.1; omega, by decide⟩ W)
   obtain ⟨p2, Hp2⟩ : ∃ p2, Shh (p2 = p * 17 % 3329) := ⟨_, ⟨rfl⟩⟩
   rw [← Hp2.out] at HPR HP
   unfold NumIs at HRV
   unfold U16Is at HPR
   clear Hp
   go_wp2_with (go_at_call 57; refine (HRV.out _).mono ?_)
   rintro e w2 ⟨rfl, rfl⟩
   go_wp2_with (first | refine wl_at 10 rfl (.pointer (some ⟨N + 1, v, none⟩)) rfl (at_roots HV.out rfl rfl rfl) ?_ | refine wl_storeU rfl HV.out rfl rfl rfl HI.out.2.1 ?_)
   intro w3 r3 b3 z3
   rw [HN2.out] at r3
   have HI3 : Shh (Row w3 N 48 (uc 128 fun _ => 0) ∧ Row w3 (N + 1) 48 (uc 128 (rtS (k + 1))) ∧ Below N w w3) := ⟨b3.row HI.out.1 HI.out.1.lt (by omega), r3, HI.out.2.2.trans (b3.under (Nat.le_of_lt HI.out.1.lt) (by omega))⟩
   clear r3 b3 z3 HI
   go_wp2_with (go_at_call 46; refine (HPR.out _).mono ?_)
   rintro e w2 ⟨rfl, rfl⟩
   go_wp2
   go_roundw
   case rel => exact ⟨k + 1, by omega, by go_num, by rw [HP.out.2], HI3⟩
   case measure => simp [intOf]; omega
  ·have hlt2 : ¬ (k : Int) < 128 := by omega
   have HI2 : Shh (Row wr N 48 (uc 128 fun _ => 0) ∧ Row wr (N + 1) 48 fin ∧ Below N w wr) := ⟨by
    have h := HI.out
    rw [show k = 128 by omega, HL.out] at h
    exact h⟩
   have HFI : Shh ((Try.prog.info? 48).map (·.size) = some fin.length ∧ fin.length = (uc 128 fun _ => 0).length ∧ ∀ u ∈ fin, u.oneCell' = true) := by
    rw [← HL.out]
    exact ⟨info_roots.trans (size_uc _ _), by rw [uc_length, uc_length], uc_one _ _⟩
   clear HI HL
   go_wp2_with (first
    | refine wpList_load_any rfl 48 (.tmp 1) rfl (N + 1) rfl 48 fin (.array 128 22) HI2.out.2.1 Try.underlying48 rfl HFI.out.1 ?_
    | refine wpList_store_any rfl 48 (.tmp 0) (.tmp 14) rfl N rfl fin rfl 48 _ HI2.out.1 HFI.out.1 HFI.out.2.1.symm HFI.out.2.2 ?_)
   intro w9 hr9 b9 _
   have hb9 := HI2.out.2.2.trans (b9.under (Nat.le_of_lt HI2.out.1.lt) (Nat.le_refl _))
   go_wp2
   exact ret_row Try.results45 rfl rfl hr9 Try.underlying48 rfl HFI.out.1 ⟨rfl, hb9⟩
end Go.Proofs.Ytfcgdjgfdbcddaa
