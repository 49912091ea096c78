import Derived.Test.YtfcgdjgfdbcddaaDoorZR2
import Derived.Lib.BitFns
/-
 THE PROGRAM'S OWN sum, difference, product, low, ones, rev.
-/
namespace Go.Proofs.YtfcgdjgfdbcddaaDoor
open Go.RowKit
set_option maxRecDepth 100000
theorem sum_any (i j : Nat) (h : i + j < 65536) (w : World) : Calls Tryd.prog 21 #[.int .u16 (i : Int), .int .u16 (j : Int)] w (U16Is w ((i + j) % 3329)) := by
 unfold U16Is
 have HR : Shh ((IntKind.u16.wrap ((i : Int) + (j : Int))).tmod 3329 = (((i + j) % 3329 : Nat) : Int)) := ⟨by
  rw [IntKind.wrap_u16, Int.tmod_eq_emod_of_nonneg (by omega)]
  omega⟩
 clear h
 generalize (i + j) % 3329 = r at *
 go_enter Tryd.func21, Tryd.ntmps21
 go_wp2
 go_ret
 exact ⟨ret_int HR.out, rfl⟩
theorem difference_any (i j : Nat) (h : i < 60000 ∧ j ≤ i + 3329) (w : World) : Calls Tryd.prog 22 #[.int .u16 (i : Int), .int .u16 (j : Int)] w (U16Is w ((i + 3329 - j) % 3329)) := by
 unfold U16Is
 have HR : Shh ((IntKind.u16.wrap (IntKind.u16.wrap ((i : Int) + 3329) - (j : Int))).tmod 3329 = (((i + 3329 - j) % 3329 : Nat) : Int)) := ⟨by
  rw [IntKind.wrap_u16, IntKind.wrap_u16, Int.tmod_eq_emod_of_nonneg (by omega)]
  omega⟩
 clear h
 generalize (i + 3329 - j) % 3329 = r at *
 go_enter Tryd.func22, Tryd.ntmps22
 go_wp2
 go_ret
 exact ⟨ret_int HR.out, rfl⟩
theorem product_any (i j : Nat) (h : i < 65536 ∧ j < 65536) (w : World) : Calls Tryd.prog 20 #[.int .u16 (i : Int), .int .u16 (j : Int)] w (U16Is w (i * j % 3329)) := by
 unfold U16Is
 have HR : Shh ((i : Int) % 4294967296 * ((j : Int) % 4294967296) % 4294967296 % 3329 = ((i * j % 3329 : Nat) : Int)) := ⟨by
  have h1 : i * j < 4294967296 := Nat.lt_of_le_of_lt (Nat.mul_le_mul (Nat.le_of_lt_succ h.1) (Nat.le_of_lt_succ h.2)) (by decide)
  rw [show (i : Int) % 4294967296 = i by omega, show (j : Int) % 4294967296 = j by omega, ← Int.natCast_mul]
  omega⟩
 clear h
 generalize i * j % 3329 = r at *
 go_enter Tryd.func20, Tryd.ntmps20
 go_wp2
 go_ret
 exact ⟨ret_int HR.out, rfl⟩
theorem and_low (n d : Nat) (hn : n < 65536) (hd : d ≤ 16) : bits .and .u16 (n : Int) ((2 ^ d - 1 : Nat) : Int) = ((n % 2 ^ d : Nat) : Int) := by
 have h2 : 2 ^ d ≤ 65536 := Nat.le_trans (Nat.pow_le_pow_right (by decide) hd) (by decide)
 have h0 := Nat.two_pow_pos d
 rw [(bits_nat .u16 16 (by decide) (fun m h0 h1 => by rw [IntKind.wrap_u16]; omega) n (2 ^ d - 1) hn (by omega)).1, Nat.and_two_pow_sub_one_eq_mod]
theorem low_any (d n : Nat) (hd : d ≤ 16) (hn : n < 65536) (w : World) : Calls Tryd.prog 23 #[.int .i64 (d : Int), .int .u16 (n : Int)] w (U16Is w (n % 2 ^ d)) := by
 unfold U16Is
 have HA : Shh (bits .and .u16 (n : Int) (IntKind.u16.wrap (IntKind.u16.wrap (2 ^ min d 16) - 1)) = ((n % 2 ^ d : Nat) : Int)) := ⟨by
  have h2 : 2 ^ d ≤ 65536 := Nat.le_trans (Nat.pow_le_pow_right (by decide) hd) (by decide)
  have h0 := Nat.two_pow_pos d
  rw [← and_low n d hn hd, show min d 16 = d by omega, show ((2 : Int) ^ d) = ((2 ^ d : Nat) : Int) by rw [Int.natCast_pow]; rfl]
  congr 1
  rw [IntKind.wrap_u16, IntKind.wrap_u16]
  generalize 2 ^ d = P at *
  omega⟩
 generalize n % 2 ^ d = r at *
 have h1 : ¬ (d : Int) < 0 := by omega
 clear hd hn
 go_enter Tryd.func23, Tryd.ntmps23
 go_wp2
 go_ret
 exact ⟨ret_int HA.out, rfl⟩
theorem rev8_is : ((List.range 128).all fun i => decide (Lib.rev8 (i : Int) / 2 = (rvN i : Int))) = true := by decide +kernel
theorem rev_prog (i : Nat) (hi : i < 128) (w : World) : Calls Tryd.prog 31 #[.int .i64 (i : Int)] w (NumIs w (rvN i)) := by
 unfold NumIs
 have HR : Shh (wrap64 (Lib.rev8 (i : Int) / 2) = (rvN i : Int)) := ⟨by
  have h := List.all_eq_true.1 rev8_is i (List.mem_range.2 hi)
  have h2 := rv_lt i hi
  simp only [decide_eq_true_eq] at h
  rw [h]
  unfold wrap64
  omega⟩
 have HB : (0 : Int) ≤ (i : Int) ∧ (i : Int) ≤ 255 := by omega
 have hw : (i : Int) % 256 = (i : Int) := by omega
 generalize rvN i = r at *
 go_enter Tryd.func31, Tryd.ntmps31
 go_wp2
 go_ret
 exact ⟨ret_int HR.out, rfl⟩
end Go.Proofs.YtfcgdjgfdbcddaaDoor

/-
 THE PROGRAM'S OWN roots: an array of 128 numbers.
-/
namespace Go.Proofs.YtfcgdjgfdbcddaaDoor
open Go.RowKit
set_option maxRecDepth 100000
/-- n numbers of 16 bits in memory -/
def uc (n : Nat) (f : Nat → Nat) : List Value := (List.range n).map fun i => .int .u16 (f i : Int)
theorem uc_length (n : Nat) (p : Nat → Nat) : (uc n p).length = n := by simp [uc]
theorem uc_get {n : Nat} (p : Nat → Nat) {k : Nat} (h : k < n) : (uc n p)[k]? = some (.int .u16 (p k : Int)) := by
 unfold uc
 rw [List.getElem?_map, List.getElem?_range h]
 rfl
theorem uc_of {n : Nat} {p r : Nat → Nat} (h : ∀ i, i < n → p i = r i) : uc n p = uc n r := by
 unfold uc
 exact List.map_congr_left fun i hi => by rw [h i (List.mem_range.1 hi)]
theorem uc_set (n : Nat) (p : Nat → Nat) (k v : Nat) : (uc n p).set k (.int .u16 (v : Int)) = uc n (upd p k v) := by
 apply List.ext_getElem?
 intro i
 rw [List.getElem?_set]
 by_cases hi : i < n
 ·rw [uc_get _ hi]
  by_cases h : k = i
  ·subst h
   rw [if_pos rfl, if_pos (by rw [uc_length]; exact hi), uc_get _ hi]
   unfold upd
   rw [if_pos rfl]
  ·rw [if_neg h, uc_get _ hi]
   unfold upd
   rw [if_neg (fun q => h q.symm)]
 ·rw [List.getElem?_eq_none (l := uc n (upd p k v)) (by rw [uc_length]; omega)]
  by_cases h : k = i
  ·rw [if_pos h, if_neg (by rw [uc_length]; omega)]
  ·rw [if_neg h, List.getElem?_eq_none (by rw [uc_length]; omega)]
theorem uc_one (n : Nat) (p : Nat → Nat) : ∀ u ∈ uc n p, u.oneCell' = true := by
 intro u hu
 unfold uc at hu
 obtain ⟨i, _, rfl⟩ := List.mem_map.1 hu
 rfl
theorem info_roots : (Tryd.prog.info? 51).map (·.size) = some 128 := by kernel_rfl
theorem size_uc (n : Nat) (p : Nat → Nat) : some n = some (uc n p).length := by rw [uc_length]
theorem zero_roots (W : World) : (zeroValue 51).run Tryd.prog W = .ok (.agg (uc 128 fun _ => 0).toArray) W := by kernel_rfl
section
variable {ops : Array Oper} {rest : List Oper} {o : Oper} {a : Act} {w : World} {Q : Exit → Act → World → Prop} {x y : Operand} {op : Oper}
theorem wl_allocR (hgd : o.guard = none) (ho : o.op = .alloc 51) (h : wpList Tryd.prog ops Q rest (a.put o.dst (.pointer (some ⟨w.heap.size, 0, none⟩))) (w.alloc (.cells (uc 128 fun _ => 0).toArray 51))) : wpList Tryd.prog ops Q (o :: rest) a w := by
 refine wl_valueW (.pointer (some ⟨w.heap.size, 0, none⟩)) (w.alloc (.cells (uc 128 fun _ => 0).toArray 51)) hgd ?_ h
 have hz := zero_roots w
 unfold execOp
 simp only [ho]
 generalize uc 128 (fun _ => 0) = z at *
 go_simp
theorem at_roots {g k : Nat} (hk : k < 128) (ho : op.op = .indexAddr 51 x y) (hx : a.eval x = .pointer (some ⟨g, 0, none⟩)) (hy : a.eval y = .int .i64 (k : Int)) : (execOp a.eval op).run Tryd.prog w = .ok (.value (.pointer (some ⟨g, k, none⟩))) w := by
 have h1 : (k : Int) < 128 := by omega
 have h2 : (0 : Int) ≤ (k : Int) := by omega
 unfold execOp
 simp only [ho, hx, hy]
 go_simp
theorem wl_storeU {g k v n : Nat} {T : TypeId} {q : Nat → Nat} (hgd : o.guard = none) (hk : k < n) (ho : o.op = .store 23 x y) (hx : a.eval x = .pointer (some ⟨g, k, none⟩)) (hy : a.eval y = .int .u16 (v : Int)) (hr : Row w g T (uc n q))
 (h : ∀ w2, Row w2 g T (uc n (upd q k v)) → But w.heap.size g w w2 → w2.heap.size = w.heap.size → wpList Tryd.prog ops Q rest (a.put o.dst undef) w2) : wpList Tryd.prog ops Q (o :: rest) a w := by
 have hc := hr.cell k
 rw [uc_get _ hk] at hc
 have hf := hr.free k
 have hs := hr.set_ k (.int .u16 (v : Int))
 rw [uc_set] at hs
 refine wpList_plain hgd fun K hK => ?_
 unfold Oper.wp
 rw [show (execOp a.eval o).run Tryd.prog w = .ok .skip (w.setCell ⟨g, k, none⟩ (.int .u16 (v : Int))) from by
  unfold execOp
  simp only [ho, hx, hy]
  go_simp]
 exact hK _ _ (h _ hs ((But.refl _ _ _).setCell _ _) (by simp [World.setCell]))
end
/-- what is laid after k rounds -/
def rtS (k i : Nat) : Nat := if rvN i < k then wN i else 0
theorem rtS_zero : uc 128 (rtS 0) = uc 128 fun _ => 0 := uc_of fun i _ => if_neg (by omega)
theorem rtS_all : uc 128 (rtS 128) = uc 128 wN := uc_of fun i hi => if_pos (rv_lt i hi)
theorem rtS_next (k : Nat) (hk : k < 128) : uc 128 (upd (rtS k) (rvN k) (17 ^ k % 3329)) = uc 128 (rtS (k + 1)) := uc_of fun i hi => by
 unfold upd rtS
 by_cases h : i = rvN k
 ·have e : rvN i = k := by rw [h]; exact rv_rv k hk
  rw [if_pos h, e, if_pos (by omega)]
  unfold wN
  rw [e]
 ·have e : rvN i ≠ k := fun q => h (by rw [← q]; exact (rv_rv i hi).symm)
  rw [if_neg h]
  by_cases h2 : rvN i < k
  ·rw [if_pos h2, if_pos (by omega)]
  ·rw [if_neg h2, if_neg (by omega)]
/-- the answer is the roots -/
def RootsIs (w : World) (e : Ending) (w' : World) : Prop := e = .returned (.agg (uc 128 wN).toArray) ∧ Below w.heap.size w w'
set_option maxHeartbeats 1000000 in
theorem roots_any (w : World) : Calls Tryd.prog 19 #[] w (RootsIs w) := by
 unfold RootsIs
 generalize hN : w.heap.size = N at *
 have HL := Shh.mk rtS_all
 generalize uc 128 wN = fin at *
 go_enter Tryd.func19, Tryd.ntmps19
 go_wp2_with (refine wl_allocR rfl rfl ?_)
 obtain ⟨W, hW⟩ : ∃ W, W = (w.alloc (.cells (uc 128 fun _ => 0).toArray 51)).alloc (.cells (uc 128 fun _ => 0).toArray 51) := ⟨_, rfl⟩
 have HW : Shh (Row W N 51 (uc 128 fun _ => 0) ∧ Row W (N + 1) 51 (uc 128 fun _ => 0) ∧ Below N w W) := by
  refine ⟨by rw [hW]; exact (Row.new_ hN.symm rfl).alloc _, by rw [hW]; exact Row.new_ (by rw [asz, hN]) rfl, ?_⟩
  rw [hW, ← hN]
  exact Below.chain (bel1 _ _) (bel1 _ _)
 try simp only [asz, hN]
 rw [← hW]
 clear hW
 go_wp2
 go_loopw [2, 3, 4] (fun p _ i wr => ∃ k : Nat, k ≤ 128 ∧ i = .int .i64 (k : Int) ∧ p = .int .u16 ((17 ^ k % 3329 : Nat) : Int) ∧ Shh (Row wr N 51 (uc 128 fun _ => 0) ∧ Row wr (N + 1) 51 (uc 128 (rtS k)) ∧ Below N w wr)) (fun _ _ i _ => 128 - (intOf i).toNat)
 case atStart => exact ⟨0, Nat.zero_le _, rfl, rfl, ⟨by rw [rtS_zero]; exact HW.out⟩⟩
 case round =>
  clear HW
  obtain ⟨k, hk, rfl, rfl, HI⟩ := hrel
  by_cases hlt : k < 128
  ·have hlt2 : (k : Int) < 128 := by omega
   have HN2 := Shh.mk (rtS_next k hlt)
   have HP : Shh (17 ^ k % 3329 < 3329 ∧ 17 ^ (k + 1) % 3329 = 17 ^ k % 3329 * 17 % 3329) := ⟨Nat.mod_lt _ (by decide), by rw [Nat.pow_succ, Nat.mod_mul_mod]⟩
   have HV := Shh.mk (rv_lt k hlt)
   have HRV := Shh.mk (fun W => rev_prog k hlt W)
   generalize rvN k = v at *
   have hv2 : (v : Int) < 128 := by have := HV.out; omega
   obtain ⟨p, Hp⟩ : ∃ p, Shh (p = 17 ^ k % 3329) := ⟨_, ⟨rfl⟩⟩
   rw [← Hp.out] at HN2 HP ⊢
   have HPR := Shh.mk (fun W => product_any p 17 ⟨by have := HP.out.1; omega, by decide⟩ W)
   obtain ⟨p2, Hp2⟩ : ∃ p2, Shh (p2 = p * 17 % 3329) := ⟨_, ⟨rfl⟩⟩
   rw [← Hp2.out] at HPR HP
   unfold NumIs at HRV
   unfold U16Is at HPR
   clear Hp
   go_wp2_with (go_at_call 31; refine (HRV.out _).mono ?_)
   rintro e w2 ⟨rfl, rfl⟩
   go_wp2_with (first | refine wl_at 10 rfl (.pointer (some ⟨N + 1, v, none⟩)) rfl (at_roots HV.out rfl rfl rfl) ?_ | refine wl_storeU rfl HV.out rfl rfl rfl HI.out.2.1 ?_)
   intro w3 r3 b3 z3
   rw [HN2.out] at r3
   have HI3 : Shh (Row w3 N 51 (uc 128 fun _ => 0) ∧ Row w3 (N + 1) 51 (uc 128 (rtS (k + 1))) ∧ Below N w w3) := ⟨b3.row HI.out.1 HI.out.1.lt (by omega), r3, HI.out.2.2.trans (b3.under (Nat.le_of_lt HI.out.1.lt) (by omega))⟩
   clear r3 b3 z3 HI
   go_wp2_with (go_at_call 20; refine (HPR.out _).mono ?_)
   rintro e w2 ⟨rfl, rfl⟩
   go_wp2
   go_roundw
   case rel => exact ⟨k + 1, by omega, by go_num, by rw [HP.out.2], HI3⟩
   case measure => simp [intOf]; omega
  ·have hlt2 : ¬ (k : Int) < 128 := by omega
   have HI2 : Shh (Row wr N 51 (uc 128 fun _ => 0) ∧ Row wr (N + 1) 51 fin ∧ Below N w wr) := ⟨by
    have h := HI.out
    rw [show k = 128 by omega, HL.out] at h
    exact h⟩
   have HFI : Shh ((Tryd.prog.info? 51).map (·.size) = some fin.length ∧ fin.length = (uc 128 fun _ => 0).length ∧ ∀ u ∈ fin, u.oneCell' = true) := by
    rw [← HL.out]
    exact ⟨info_roots.trans (size_uc _ _), by rw [uc_length, uc_length], uc_one _ _⟩
   clear HI HL
   go_wp2_with (first
    | refine wpList_load_any rfl 51 (.tmp 1) rfl (N + 1) rfl 51 fin (.array 128 23) HI2.out.2.1 Tryd.underlying51 rfl HFI.out.1 ?_
    | refine wpList_store_any rfl 51 (.tmp 0) (.tmp 14) rfl N rfl fin rfl 51 _ HI2.out.1 HFI.out.1 HFI.out.2.1.symm HFI.out.2.2 ?_)
   intro w9 hr9 b9 _
   have hb9 := HI2.out.2.2.trans (b9.under (Nat.le_of_lt HI2.out.1.lt) (Nat.le_refl _))
   go_wp2
   exact ret_row Tryd.results19 rfl rfl hr9 Tryd.underlying51 rfl HFI.out.1 ⟨rfl, hb9⟩
end Go.Proofs.YtfcgdjgfdbcddaaDoor

/-
 THE PROGRAM'S OWN Reduce.
-/
namespace Go.Proofs.YtfcgdjgfdbcddaaDoor
open Go.RowKit
set_option maxRecDepth 100000
set_option maxHeartbeats 1000000 in
theorem Reduce_any (p : Nat → Nat) (hp : ∀ i, i < 256 → p i < 65536) (w : World) : Calls Tryd.prog 18 #[polyV p] w (PolyIs w (redN p)) := by
 unfold PolyIs polyV
 generalize hN : w.heap.size = N at *
 have HP := Shh.mk hp
 have HR : Shh (∀ i, redN p i = p i % 3329) := ⟨fun i => rd_same _⟩
 generalize redN p = r at *
 clear hp
 have HL0 : Shh (Row ((w.alloc (.cells (pc p).toArray 25)).alloc (.cells (pc fun _ => 0).toArray 25)) N 25 (pc p)) := ⟨(Row.new_ hN.symm rfl).alloc _⟩
 go_enter Tryd.func18, Tryd.ntmps18
 go_wp2_with (first | refine wl_allocP rfl rfl ?_ | refine wpList_load_any rfl 25 (.tmp 1) rfl N rfl 25 (pc p) (.array 256 23) HL0.out Tryd.underlying25 rfl (info_poly.trans (size_poly p)) ?_)
 obtain ⟨W, hW⟩ : ∃ W, W = (w.alloc (.cells (pc p).toArray 25)).alloc (.cells (pc fun _ => 0).toArray 25) := ⟨_, rfl⟩
 have HW : Shh (Row W N 25 (pc p) ∧ Row W (N + 1) 25 (pc fun _ => 0) ∧ Below N w W) := by
  refine ⟨by rw [hW]; exact (Row.new_ hN.symm rfl).alloc _, by rw [hW]; exact Row.new_ (by rw [asz, hN]) rfl, ?_⟩
  rw [hW, ← hN]
  exact Below.chain (bel1 _ _) (bel1 _ _)
 try simp only [asz, hN]
 rw [← hW]
 clear hW HL0
 go_loopw [3, 4, 6] (fun _ _ i wr => ∃ k : Nat, k ≤ 256 ∧ i = .int .i64 (k : Int) ∧ Shh (Row wr N 25 (pc (half r p k)) ∧ Row wr (N + 1) 25 (pc fun _ => 0) ∧ Below N w wr)) (fun _ _ i _ => 256 - (intOf i).toNat)
 case atStart => exact ⟨0, Nat.zero_le _, rfl, ⟨by rw [half_zero]; exact HW.out⟩⟩
 case round =>
  clear HW
  obtain ⟨k, hk, rfl, HI⟩ := hrel
  by_cases hlt : k < 256
  ·have HE : Shh (r k = p k % 3329 ∧ p k < 65536) := ⟨HR.out k, HP.out k hlt⟩
   have HN2 := Shh.mk (half_next r p k)
   have HG := Shh.mk (pc_get p hlt)
   generalize r k = rk at *
   generalize p k = pk at *
   have hlt2 : (k : Int) < 256 := by omega
   go_wp2_with (first | refine wl_at 9 rfl (.int .u16 (pk : Int)) rfl (idx_poly hlt HG.out rfl rfl rfl) ?_ | refine wl_at 12 rfl (.int .u16 (rk : Int)) rfl (rem_u16 HE.out.1 HE.out.2 rfl rfl) ?_ | refine wl_at 13 rfl (.pointer (some ⟨N, k, none⟩)) rfl (at_poly hlt rfl rfl rfl) ?_ | refine wl_storeP rfl hlt rfl rfl rfl HI.out.1 ?_)
   intro w3 r3 b3 z3
   rw [HN2.out] at r3
   have HI3 : Shh (Row w3 N 25 (pc (half r p (k + 1))) ∧ Row w3 (N + 1) 25 (pc fun _ => 0) ∧ Below N w w3) := ⟨r3, b3.row HI.out.2.1 HI.out.2.1.lt (by omega), HI.out.2.2.trans (b3.under (Nat.le_of_lt HI.out.1.lt) (by omega))⟩
   clear r3 b3 z3 HI
   go_wp2
   go_roundw
   case rel => exact ⟨k + 1, by omega, by go_num, HI3⟩
   case measure => simp [intOf]; omega
  ·have HL : Shh (pc (half r p k) = pc r) := ⟨by rw [show k = 256 by omega]; exact half_all _ _⟩
   rw [HL.out] at HI
   have hlt2 : ¬ (k : Int) < 256 := by omega
   clear HL HP HR
   go_wp2_with (first
    | refine wpList_load_any rfl 25 (.tmp 1) rfl N rfl 25 (pc r) (.array 256 23) HI.out.1 Tryd.underlying25 rfl (info_poly.trans (size_poly r)) ?_
    | refine wpList_store_any rfl 25 (.tmp 2) (.tmp 15) rfl (N + 1) rfl (pc r) rfl 25 _ HI.out.2.1 (info_poly.trans (size_poly r)) (by rw [pc_length, pc_length]) (pc_one r) ?_)
   intro w9 hr9 b9 _
   have hb9 := HI.out.2.2.trans (b9.under (Nat.le_of_lt HI.out.1.lt) (Nat.le_succ _))
   go_wp2
   exact ret_row Tryd.results18 rfl rfl hr9 Tryd.underlying25 rfl (info_poly.trans (size_poly r)) ⟨rfl, hb9⟩
end Go.Proofs.YtfcgdjgfdbcddaaDoor
