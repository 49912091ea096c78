import Derived.Test.YtbjpbeplpljieaaDoorZD
import Derived.Test.YtbjpbeplpljieaaDoorZF
import Derived.Test.YtbjpbeplpljieaaDoorZB
import Derived.Defers
import Derived.Recover
import Derived.Test.YtbjpbeplpljieaaDoorZH
/-
 ERRORS THAT ARE RAISED: demand, sure, raised, and the deferred closures.
-/
namespace Go.Proofs.YtbjpbeplpljieaaDoor
open Go.RowKit
set_option maxRecDepth 100000
/-- an error that is raised -/
def raisedV (er : Int) : PanicEntry := { v := .iface 24 (.int .i64 er), recovered := false }
/-- an error was raised, and what was in memory stays -/
def PanIs (w : World) (er : Int) (e : Ending) (w' : World) : Prop := e = .panicked [raisedV er] ∧ Below w.heap.size w w'
/-- a value is handed back, and the world is as it was -/
def HereIs (w : World) (v : Value) (e : Ending) (w' : World) : Prop := e = .returned v ∧ w = w'
theorem demand_yes (er : Int) (w : World) : Calls Tryd.prog 29 #[.bool true, .int .i64 er] w (HereIs w (.tuple #[])) := by
 go_enter Tryd.func29, Tryd.ntmps29
 go_wp2
 go_end0
 exact ⟨rfl, rfl⟩
theorem demand_no (er : Int) (w : World) : Calls Tryd.prog 29 #[.bool false, .int .i64 er] w (PanIs w er) := by
 go_enter Tryd.func29, Tryd.ntmps29
 go_wp2
 exact ⟨rfl, rfl, Below.refl _ _⟩
theorem raised_nil (w : World) : Calls Tryd.prog 19 #[.nilIface] w (HereIs w (.int .i64 0)) := by
 go_enter Tryd.func19, Tryd.ntmps19
 go_wp2
 go_ret
 exact ⟨rfl, rfl⟩
theorem raised_some (er : Int) (w : World) : Calls Tryd.prog 19 #[.iface 24 (.int .i64 er)] w (HereIs w (.int .i64 er)) := by
 have hta : (Instr.typeAssert (Value.iface 24 (Value.int IntKind.i64 er)) 20 24 false).run Tryd.prog w = .ok (.int .i64 er) w := by kernel_rfl
 go_enter Tryd.func19, Tryd.ntmps19
 go_wp2
 go_ret
 exact ⟨rfl, rfl⟩
/-- the bytes are handed back, if there was no error -/
theorem sureB_ok (v : Value) (w : World) : Calls Tryd.prog 31 #[v, .int .i64 0] w (HereIs w v) := by
 go_enter Tryd.func31, Tryd.ntmps31
 go_wp2_with (go_at_call 29; refine (demand_yes 0 w).mono ?_)
 rintro e w1 ⟨rfl, rfl⟩
 go_wp2
 go_ret
 exact ⟨rfl, rfl⟩
set_option maxHeartbeats 1000000 in
theorem sureP_ok (p : Nat → Nat) (w : World) : Calls Tryd.prog 73 #[polyV p, .int .i64 0] w (PolyIs w p) := by
 unfold PolyIs polyV
 generalize hN : w.heap.size = N at *
 have HL : Shh (Row ((w.alloc (.cells (pc p).toArray 62)).alloc (.cells (pc fun _ => 0).toArray 62)) N 62 (pc p) ∧ Row ((w.alloc (.cells (pc p).toArray 62)).alloc (.cells (pc fun _ => 0).toArray 62)) (N + 1) 62 (pc fun _ => 0) ∧ Below N w ((w.alloc (.cells (pc p).toArray 62)).alloc (.cells (pc fun _ => 0).toArray 62))) := by
  refine ⟨(Row.new_ hN.symm rfl).alloc _, Row.new_ (by rw [asz, hN]) rfl, ?_⟩
  rw [← hN]
  exact Below.chain (bel1 _ _) (bel1 _ _)
 go_enter Tryd.func73, Tryd.ntmps73
 go_wp2_with (first | refine wl_allocP rfl rfl ?_ | (go_at_call 29; refine (demand_yes 0 _).mono ?_))
 rintro e w1 ⟨rfl, rfl⟩
 go_wp2_with (first | refine wpList_load_any rfl 62 (.tmp 2) rfl N rfl 62 (pc p) (.array 256 39) HL.out.1 Tryd.underlying62 rfl (info_poly.trans (size_poly p)) ?_ | refine wpList_store_any rfl 62 (.tmp 4) (.tmp 9) rfl (N + 1) rfl (pc p) rfl 62 _ HL.out.2.1 (info_poly.trans (size_poly p)) (by rw [pc_length, pc_length]) (pc_one p) ?_)
 intro w9 hr9 b9 _
 have hb9 := HL.out.2.2.trans (b9.under (by have := HL.out.1.lt; omega) (Nat.le_succ _))
 go_wp2
 exact ret_row Tryd.results73 rfl rfl hr9 Tryd.underlying62 rfl (info_poly.trans (size_poly p)) ⟨rfl, hb9⟩
set_option maxHeartbeats 1000000 in
theorem sureP_bad (p : Nat → Nat) (er : Int) (her : ¬ er = 0) (w : World) : Calls Tryd.prog 73 #[polyV p, .int .i64 er] w (PanIs w er) := by
 unfold PanIs polyV
 generalize hN : w.heap.size = N at *
 have HL : Shh (Below N w ((w.alloc (.cells (pc p).toArray 62)).alloc (.cells (pc fun _ => 0).toArray 62))) := by
  rw [← hN]
  exact ⟨Below.chain (bel1 _ _) (bel1 _ _)⟩
 have her2 : (er == 0) = false := by simpa using her
 clear her
 go_enter Tryd.func73, Tryd.ntmps73
 go_wp2_with (first | refine wl_allocP rfl rfl ?_ | (go_at_call 29; refine (demand_no er _).mono ?_))
 rintro e w1 ⟨rfl, b1⟩
 go_wp2
 exact ⟨rfl, rfl, HL.out.trans (b1.mono (by rw [asz, asz]; omega))⟩
end Go.Proofs.YtbjpbeplpljieaaDoor

/-
 VECTORS IN MEMORY: three polynomials, 768 cells.
-/
namespace Go.Proofs.YtbjpbeplpljieaaDoor
open Go.RowKit
set_option maxRecDepth 100000
def vc (V : Nat → Nat → Nat) : List Value := pc (V 0) ++ pc (V 1) ++ pc (V 2)
theorem vc_length (V : Nat → Nat → Nat) : (vc V).length = 768 := by simp [vc, pc_length]
theorem vc_one (V : Nat → Nat → Nat) : ∀ u ∈ vc V, u.oneCell' = true := by
 intro u hu
 simp only [vc, List.mem_append] at hu
 rcases hu with (h | h) | h <;> exact pc_one _ u h
theorem vc_of {V U : Nat → Nat → Nat} (h : ∀ k, k < 3 → V k = U k) : vc V = vc U := by
 unfold vc
 rw [h 0 (by decide), h 1 (by decide), h 2 (by decide)]
theorem vc_piece (V : Nat → Nat → Nat) {k : Nat} (hk : k < 3) : ((vc V).drop (256 * k)).take 256 = pc (V k) := by
 have h0 := pc_length (V 0)
 have h1 := pc_length (V 1)
 have h2 := pc_length (V 2)
 unfold vc
 match k, hk with
 | 0, _ => rw [Nat.mul_zero, List.drop_zero, List.append_assoc, ← h0, List.take_left']; rw [h0]
 | 1, _ => rw [Nat.mul_one, List.append_assoc, List.drop_left' h0, ← h1, List.take_left']; rw [h1]
 | 2, _ => rw [List.drop_left' (by rw [List.length_append, h0, h1]), ← h2, List.take_length]
def updV (V : Nat → Nat → Nat) (k : Nat) (q : Nat → Nat) (i : Nat) : Nat → Nat := if i = k then q else V i
theorem vc_over (V : Nat → Nat → Nat) {k : Nat} (hk : k < 3) (q : Nat → Nat) : over (vc V) (256 * k) (pc q) = vc (updV V k q) := by
 have h0 := pc_length (V 0)
 have h1 := pc_length (V 1)
 have h2 := pc_length (V 2)
 rw [over_eq _ _ _ (by rw [vc_length, pc_length]; omega), pc_length]
 match k, hk with
 | 0, _ =>
  rw [Nat.mul_zero, List.take_zero, List.nil_append, Nat.zero_add]
  unfold vc
  rw [List.append_assoc (pc (V 0)), List.drop_left' h0]
  simp [updV]
 | 1, _ =>
  unfold vc
  rw [Nat.mul_one, List.drop_left' (by rw [List.length_append, h0, h1]), List.append_assoc (pc (V 0)), List.take_left' h0]
  simp [updV]
 | 2, _ =>
  unfold vc
  rw [List.take_left' (by rw [List.length_append, h0, h1]), List.drop_eq_nil_of_le (by simp [h0, h1, h2])]
  simp [updV]
/-- the first k are done -/
def hfV (A B : Nat → Nat → Nat) (k i : Nat) : Nat → Nat := if i < k then A i else B i
theorem hfV_zero (A B : Nat → Nat → Nat) : vc (hfV A B 0) = vc B := vc_of fun i _ => by unfold hfV; rw [if_neg (by omega)]
theorem hfV_all (A B : Nat → Nat → Nat) : vc (hfV A B 3) = vc A := vc_of fun i hi => by unfold hfV; rw [if_pos hi]
theorem hfV_next (A B : Nat → Nat → Nat) (k : Nat) : vc (updV (hfV A B k) k (A k)) = vc (hfV A B (k + 1)) := vc_of fun i _ => by
 unfold updV hfV
 by_cases h : i = k
 ·rw [if_pos h, if_pos (by omega), h]
 ·rw [if_neg h]
  by_cases h2 : i < k
  ·rw [if_pos h2, if_pos (by omega)]
  ·rw [if_neg h2, if_neg (by omega)]
theorem hfV_at (A B : Nat → Nat → Nat) (k : Nat) : hfV A B k k = B k := by unfold hfV; rw [if_neg (Nat.lt_irrefl k)]
def zV (_ _ : Nat) : Nat := 0
def vecV (V : Nat → Nat → Nat) : Value := .agg (vc V).toArray
/-- the answer is a vector, and what was in memory stays -/
def VecIs (w : World) (V : Nat → Nat → Nat) (e : Ending) (w' : World) : Prop := e = .returned (vecV V) ∧ Below w.heap.size w w'
theorem info_vec : (Tryd.prog.info? 64).map (·.size) = some 768 := by kernel_rfl
theorem size_vec (V : Nat → Nat → Nat) : some 768 = some (vc V).length := by rw [vc_length]
theorem zero_vec (W : World) : (zeroValue 64).run Tryd.prog W = .ok (.agg (vc zV).toArray) W := by kernel_rfl
section
variable {ops : Array Oper} {rest : List Oper} {o o1 o2 : Oper} {a : Act} {w : World} {Q : Exit → Act → World → Prop} {x y : Operand} {op : Oper}
theorem wl_allocV (hgd : o.guard = none) (ho : o.op = .alloc 64) (h : wpList Tryd.prog ops Q rest (a.put o.dst (.pointer (some ⟨w.heap.size, 0, none⟩))) (w.alloc (.cells (vc zV).toArray 64))) : wpList Tryd.prog ops Q (o :: rest) a w := by
 refine wl_valueW (.pointer (some ⟨w.heap.size, 0, none⟩)) (w.alloc (.cells (vc zV).toArray 64)) hgd ?_ h
 have hz := zero_vec w
 unfold execOp
 simp only [ho]
 generalize vc zV = z at *
 go_simp
theorem run_allocV (ho : op.op = .alloc 64) : (execOp a.eval op).run Tryd.prog w = .ok (.value (.pointer (some ⟨w.heap.size, 0, none⟩))) (w.alloc (.cells (vc zV).toArray 64)) := by
 have hz := zero_vec w
 unfold execOp
 simp only [ho]
 generalize vc zV = z at *
 go_simp
/-- a new vector of zeros -/
theorem wl_zeroV (d : Nat) (hg1 : o1.guard = none) (hd : o1.dst = some d) (h1 : o1.op = .alloc 64)
 (h : ∀ g w2, Shh (g = w.heap.size) → Row w2 g 64 (vc zV) → Below w.heap.size w w2 → wpList Tryd.prog ops Q rest (a.put (some d) (.pointer (some ⟨g, 0, none⟩))) w2) : wpList Tryd.prog ops Q (o1 :: rest) a w := by
 refine wl_allocV hg1 h1 ?_
 rw [hd]
 exact h _ _ ⟨rfl⟩ (Row.new_ rfl rfl) (bel1 w _)
/-- a new vector, filled -/
theorem wl_newV (d : Nat) (V : Nat → Nat → Nat) (hg1 : o1.guard = none) (hg2 : o2.guard = none) (hd : o1.dst = some d) (hd2 : o2.dst = none) (h1 : o1.op = .alloc 64) (h2 : o2.op = .store 64 (.tmp d) y)
 (hx : (a.put (some d) (.pointer (some ⟨w.heap.size, 0, none⟩))).eval (.tmp d) = .pointer (some ⟨w.heap.size, 0, none⟩)) (hy : (a.put (some d) (.pointer (some ⟨w.heap.size, 0, none⟩))).eval y = .agg (vc V).toArray)
 (h : ∀ g w2, Shh (g = w.heap.size) → Row w2 g 64 (vc V) → Below w.heap.size w w2 → wpList Tryd.prog ops Q rest (a.put (some d) (.pointer (some ⟨g, 0, none⟩))) w2) : wpList Tryd.prog ops Q (o1 :: o2 :: rest) a w := by
 refine wl_allocV hg1 h1 ?_
 rw [hd]
 refine wpList_store_any hg2 64 (.tmp d) y h2 w.heap.size hx (vc V) hy 64 (vc zV) (Row.new_ rfl rfl) (info_vec.trans (size_vec V)) (by rw [vc_length, vc_length]) (vc_one V) ?_
 intro w2 r b z
 rw [hd2]
 exact h _ w2 ⟨rfl⟩ r ((bel1 w _).trans (b.under (by rw [asz]; omega) (Nat.le_refl _)))
theorem run_atV {g k O : Nat} (hk : k < 3) (hO : O = 256 * k) (ho : op.op = .indexAddr 64 x y) (hx : a.eval x = .pointer (some ⟨g, 0, none⟩)) (hy : a.eval y = .int .i64 (k : Int)) : (execOp a.eval op).run Tryd.prog w = .ok (.value (.pointer (some ⟨g, O, none⟩))) w := by
 have h1 : (k : Int) < 3 := by omega
 have h2 : (0 : Int) ≤ (k : Int) := by omega
 subst hO
 unfold execOp
 simp only [ho, hx, hy]
 match k, hk with
 | 0, _ => go_simp
 | 1, _ => go_simp
 | 2, _ => go_simp
theorem wl_loadE {g k O : Nat} {V : Nat → Nat → Nat} {q : Nat → Nat} (hq : V k = q) (hgd : o.guard = none) (hk : k < 3) (hO : O = 256 * k) (ho : o.op = .load 62 x) (hx : a.eval x = .pointer (some ⟨g, O, none⟩)) (hr : Row w g 64 (vc V))
 (h : wpList Tryd.prog ops Q rest (a.put o.dst (.agg (pc q).toArray)) w) : wpList Tryd.prog ops Q (o :: rest) a w := by
 have hm := hr.mid O 256
 rw [hO, vc_piece V hk, ← hO, hq] at hm
 exact wpList_load_mid hgd 62 x ho g O hx (pc q) (.array 256 39) hm Tryd.underlying62 rfl (info_poly.trans (size_poly _)) h
theorem wl_storeE {g k O : Nat} {V : Nat → Nat → Nat} {q : Nat → Nat} (hgd : o.guard = none) (hd : o.dst = none) (hk : k < 3) (hO : O = 256 * k) (ho : o.op = .store 62 x y) (hx : a.eval x = .pointer (some ⟨g, O, none⟩)) (hy : a.eval y = .agg (pc q).toArray) (hr : Row w g 64 (vc V))
 (h : ∀ w2, Row w2 g 64 (vc (updV V k q)) → But w.heap.size g w w2 → w2.heap.size = w.heap.size → wpList Tryd.prog ops Q rest a w2) : wpList Tryd.prog ops Q (o :: rest) a w := by
 have hr2 := hr.setCells (pc q) O
 rw [hO, vc_over V hk q, ← hO] at hr2
 refine wpList_store_mid hgd 62 x y ho g O (pc q).toArray hx hy (hr.there O _ (by rw [List.size_toArray, pc_length, vc_length]; omega)) (info_poly.trans (by rw [List.size_toArray, pc_length])) (all_oneCell_toArray (pc_one q)) ?_
 rw [hd]
 exact h _ hr2 ((But.refl _ g w).setCells _ _) (size_setCells _ _ _)
end
end Go.Proofs.YtbjpbeplpljieaaDoor

/-
 WORDS of kem, and its functions without a loop: element, noise, piece, narrowed, widened.
-/
namespace Go.Proofs.YtbjpbeplpljieaaDoor
open Go.RowKit
set_option maxRecDepth 100000
section
variable {w : World} {B : Nat}
theorem parts_two {u u2 : Value} {bs bs2 : List UInt8} {T : TypeId} {n g : Nat} (hg : g = w.heap.size) (h1 : Sl w g u bs) (h2 : Sl w g u2 bs2) : PartsO (w.alloc (.cells #[u, u2] T)) (g + 1) (g + 1) (.slice (some ⟨g, 0, none⟩) 2 n) [bs, bs2] := by
 subst hg
 have e1 := (h1.below (bel1 w (.cells #[u, u2] T))).more (Nat.le_succ w.heap.size)
 have e2 := (h2.below (bel1 w (.cells #[u, u2] T))).more (Nat.le_succ w.heap.size)
 exact PartsO.two (Nat.lt_succ_self _) (by omega) (Row.new_ rfl rfl) e1 (e1.off (Nat.le_refl _)) e2 (e2.off (Nat.le_refl _))
theorem parts_one {u : Value} {bs : List UInt8} {T : TypeId} {n g : Nat} (hg : g = w.heap.size) (h1 : Sl w g u bs) : PartsO (w.alloc (.cells #[u] T)) (g + 1) (g + 1) (.slice (some ⟨g, 0, none⟩) 1 n) [bs] := by
 subst hg
 have e1 := (h1.below (bel1 w (.cells #[u] T))).more (Nat.le_succ w.heap.size)
 exact PartsO.solo (Row.new_ rfl rfl) (Nat.lt_succ_self _) (by omega) e1 (e1.off (Nat.le_refl _))
theorem u8_nat {n : Nat} (h : n < 256) : ((UInt8.ofNat n).toNat : Int) = (n : Int) := by
 have : (UInt8.ofNat n).toNat = n := by simp; omega
 rw [this]
theorem bytes_two {i j : Nat} (hi : i < 256) (hj : j < 256) {T : TypeId} {g : Nat} (hg : g = w.heap.size) : Sl (w.alloc (.cells #[.int .u8 (i : Int), .int .u8 (j : Int)] T)) (g + 1) (.slice (some ⟨g, 0, none⟩) 2 2) [UInt8.ofNat i, UInt8.ofNat j] :=
 Sl.of_bytes (T := T) (Row.new_ hg (by simp [Lib.byteCells]; omega)) (Nat.lt_succ_self _) rfl (by decide)
theorem bytes_one {i : Nat} (hi : i < 256) {T : TypeId} {g : Nat} (hg : g = w.heap.size) : Sl (w.alloc (.cells #[.int .u8 (i : Int)] T)) (g + 1) (.slice (some ⟨g, 0, none⟩) 1 1) [UInt8.ofNat i] :=
 Sl.of_bytes (T := T) (Row.new_ hg (by simp [Lib.byteCells]; omega)) (Nat.lt_succ_self _) rfl (by decide)
end
section
variable {ops : Array Oper} {rest : List Oper} {o : Oper} {a : Act} {w : World} {Q : Exit → Act → World → Prop} {x y lo hi : Operand} {op : Oper}
theorem conv_i8 {n : Nat} (hn : n < 256) (ho : op.op = .convert 3 5 x) (hx : a.eval x = .int .i64 (n : Int)) : (execOp a.eval op).run Tryd.prog w = .ok (.value (.int .u8 (n : Int))) w := by
 have hw : IntKind.u8.wrap (n : Int) = (n : Int) := by rw [IntKind.wrap_u8]; omega
 have hm : (n : Int) % 256 = (n : Int) := by omega
 unfold execOp
 simp only [ho, hx]
 go_simp
theorem run_cutLH (A : Option Addr) (n c i j : Nat) (hij : i ≤ j) (hj : j ≤ c) (w : World) : (Instr.sliceAt 23 (.slice A n c) (some (.int .i64 (i : Int))) (some (.int .i64 (j : Int))) none).run Tryd.prog w = .ok (sliced A i j c 1) w := by
 rw [run_sliceAt_slice _ _ _ _ _ _ slice30, run_slice_lh w 23 A n c slice30 .i64 .i64 (i : Int) (j : Int) (by omega) (by omega) (by omega), elem30, run_sizeOf_u8, Result.andThen_ok, Int.toNat_natCast, Int.toNat_natCast]
/-- x[i:j] of a slice of bytes, within its length -/
theorem wl_cut (i j : Nat) (hgd : o.guard = none) (ho : o.op = .slice 23 x (some lo) (some hi) none) {v : Value} (hx : a.eval x = v) (hlo : a.eval lo = .int .i64 (i : Int)) (hhi : a.eval hi = .int .i64 (j : Int)) {B : Nat} {bs : List UInt8} (hs : Sl w B v bs) (hij : i ≤ j) (hj : j ≤ bs.length)
  (h : ∀ v', Sl w B v' ((bs.take j).drop i) → wpList Tryd.prog ops Q rest (a.put o.dst v') w) : wpList Tryd.prog ops Q (o :: rest) a w := by
 obtain ⟨A, c, rfl, h1, h2⟩ := hs.form
 have hcut := hs.cut i j hij hj (by omega)
 refine wpList_plain hgd fun K hK => ?_
 have hrun := run_cutLH A bs.length c i j hij (by omega) w
 unfold Oper.wp execOp
 simp only [ho, hx, hlo, hhi, Option.map_some, Option.map_none, Sem.run_bind, hrun, Result.andThen_ok]
 exact hK _ _ (h _ hcut)
end
/-- the numbers of an element's seed -/
def smX (rho : List UInt8) (i j : Nat) : Nat → Nat := grp (nb (spongeL 168 31 (rho ++ [UInt8.ofNat j, UInt8.ofNat i]) 3072))
def elF (rho : List UInt8) (i j : Nat) : Nat → Nat := smpF (smX rho i j)
/-- the element of row i, column j is one -/
def elOk (rho : List UInt8) (i j : Nat) : Prop := smpE (smX rho i j) = 0
theorem smpE_two (xs : Nat → Nat) : smpE xs = 0 ∨ smpE xs = 130 := by unfold smpE; split <;> simp
/-- an answer, or ErrSample raised -/
def OrPan (ok : Prop) (w : World) (R : Ending → World → Prop) (e : Ending) (w' : World) : Prop := (ok → R e w') ∧ (¬ ok → PanIs w 130 e w')
set_option maxHeartbeats 2000000 in
theorem element_any (rho : List UInt8) (hl : rho.length = 32) (i j : Nat) (hi : i < 256) (hj : j < 256) (B : Nat) (v : Value) (w : World) (hs : Sl w B v rho) (hB : B ≤ w.heap.size) (hv : KVars w) : Calls Tryd.prog 66 #[v, .int .i64 (i : Int), .int .i64 (j : Int)] w (OrPan (elOk rho i j) w (PolyIs w (elF rho i j))) := by
 unfold PolyIs polyV elOk elF
 have hpos := hv.pos
 generalize hN : w.heap.size = N at *
 obtain ⟨m, hm⟩ : ∃ m, Shh (m = rho ++ [UInt8.ofNat j, UInt8.ofNat i]) := ⟨_, ⟨rfl⟩⟩
 obtain ⟨FF, hFF⟩ : ∃ F, F = smpF (smX rho i j) := ⟨_, rfl⟩
 obtain ⟨ee, hee⟩ : ∃ F, F = smpE (smX rho i j) := ⟨_, rfl⟩
 have HC : Shh (∀ W B' u, Sl W B' u m → B' ≤ W.heap.size → KVars W → Calls Tryd.prog 85 #[u] W (CodeIs W FF ee)) := ⟨fun W B' u hs hB hv => by
  rw [hFF, hee]
  exact SampleNtt_any B' u m (by rw [hm.out]; simp [hl]) W hs hB hv _ (by rw [hm.out]; rfl)⟩
 have HE2 : Shh (ee = 0 ∨ ee = 130) := ⟨by rw [hee]; exact smpE_two _⟩
 rw [← hFF, ← hee]
 clear hFF hee
 obtain ⟨A, c, rfl, _, _⟩ := hs.form
 have HFL : Shh ([rho, [UInt8.ofNat j, UInt8.ofNat i]].flatten = m ∧ [rho, [UInt8.ofNat j, UInt8.ofNat i]].flatten.length ≤ 1099511627776) := ⟨by rw [hm.out]; simp, by simp [hl]⟩
 have HS0 : Shh (Sl w B (.slice A rho.length c) rho ∧ B ≤ N ∧ KVars w ∧ w.heap.size = N ∧ 0 < N) := ⟨hs, hB, hv, hN, hpos⟩
 have hN0 := Shh.mk hN
 clear hs hB hv hN hpos hl
 generalize rho.length = ln at *
 go_enter Tryd.func66, Tryd.ntmps66
 go_wp2_with (refine wl_allocS 6 rfl rfl rfl ?_)
 intro N1 w2 hN1 r2 b2
 simp only [Act.put, arr9, hd9, tl9]
 obtain rfl : N = N1 := HS0.out.2.2.2.1.symm.trans hN1.out.symm
 obtain ⟨M, hM⟩ : ∃ M, Shh (M = w2.heap.size) := ⟨_, ⟨rfl⟩⟩
 have HI : Shh (Sl w2 M (.slice A ln c) rho ∧ KVars w2 ∧ Row w2 N 62 (pc fun _ => 0) ∧ Below N w w2 ∧ N < M) := by
  obtain ⟨h1, h2, h3, h4, h5⟩ := HS0.out
  rw [h4] at b2
  have := r2.lt
  rw [hM.out]
  exact ⟨⟨(h1.below (b2.mono h2)).more (by omega), h3.step (h4.symm ▸ b2), r2, b2, r2.lt⟩⟩
 clear r2 b2 hN1 HS0
 go_wp2_with (first | refine wl_at 9 rfl (.int .u8 (j : Int)) rfl (conv_i8 hj rfl rfl) ?_ | refine wl_at 11 rfl (.int .u8 (i : Int)) rfl (conv_i8 hi rfl rfl) ?_ | (go_at_call 22; refine (join_any (w2.heap.size + 1 + 1) (w2.heap.size + 1 + 1) _ [rho, [UInt8.ofNat j, UInt8.ofNat i]] _ (parts_two (by rw [asz]) ((HI.out.1.below ((bel1 _ _).mono (Nat.le_of_eq hM.out))).more (by have := hM.out; omega)) (bytes_two hj hi rfl)) (by rw [asz, asz]; exact Nat.le_refl _) HFL.out.2 (by simp)).mono ?_))
 rintro e w3 ⟨u, rfl, hu, b3⟩
 have HJ : Shh (Sl w3 w3.heap.size u m ∧ KVars w3 ∧ Row w3 N 62 (pc fun _ => 0) ∧ Below N w w3 ∧ N < w3.heap.size) := by
  obtain ⟨h1, h2, h3, h4, h5⟩ := HI.out
  have hMM := hM.out
  rw [HFL.out.1] at hu
  have b5 := Below.chain (Below.chain (bel1 w2 _) (bel1 _ _)) b3
  exact ⟨Sl.of_own hu, h2.step b5, h3.go b5, h4.trans (b5.mono (by omega)), Nat.lt_of_lt_of_le (hMM ▸ h5) b5.size⟩
 clear hu b3 HI hM
 go_wp2_with (go_at_call 85; refine (HC.out w3 _ u HJ.out.1 (Nat.le_refl _) HJ.out.2.1).mono ?_)
 rintro e w4 ⟨rfl, b4⟩
 have HK : Shh (Row w4 N 62 (pc fun _ => 0) ∧ Below N w w4 ∧ N < w4.heap.size) := by
  obtain ⟨h1, h2, h3, h4, h5⟩ := HJ.out
  exact ⟨h3.go b4, h4.trans (b4.mono (Nat.le_of_lt h5)), Nat.lt_of_lt_of_le h5 b4.size⟩
 clear b4 HJ HC
 by_cases he : ee = 0
 ·subst he
  go_wp2_with (go_at_call 73; refine (sureP_ok FF w4).mono ?_)
  rintro e w5 ⟨rfl, b5⟩
  have HK2 : Shh (Row w5 N 62 (pc fun _ => 0) ∧ Below N w w5) := by
   obtain ⟨h3, h4, h5⟩ := HK.out
   exact ⟨h3.go b5, h4.trans (b5.mono (Nat.le_of_lt h5))⟩
  clear b5 HK
  go_wp2_with (refine wpList_store_any rfl 62 (.tmp 6) (.tmp 18) rfl N rfl (pc FF) rfl 62 _ HK2.out.1 (info_poly.trans (size_poly _)) (by rw [pc_length, pc_length]) (pc_one _) ?_)
  intro w9 hr9 b9 _
  have hb9 : Below N w w9 := HK2.out.2.trans (b9.under (Nat.le_of_lt HK2.out.1.lt) (Nat.le_refl _))
  go_wp2
  exact ret_row Tryd.results66 rfl rfl hr9 Tryd.underlying62 rfl (info_poly.trans (size_poly _)) ⟨fun _ => ⟨rfl, hb9⟩, fun h => absurd (by simp) h⟩
 ·have he2 : ee = 130 := HE2.out.resolve_left he
  subst he2
  go_wp2_with (go_at_call 73; refine (sureP_bad FF 130 he w4).mono ?_)
  rintro e w5 ⟨rfl, b5⟩
  have hb5 : Below N w w5 := HK.out.2.1.trans (b5.mono (Nat.le_of_lt HK.out.2.2))
  go_wp2
  exact ⟨rfl, fun h => absurd h he, fun _ => ⟨rfl, by rw [hN0.out]; exact hb5⟩⟩
end Go.Proofs.YtbjpbeplpljieaaDoor

/-
 FUNCTIONS of kem without a loop: noise, piece, narrowed, widened.
-/
namespace Go.Proofs.YtbjpbeplpljieaaDoor
open Go.RowKit
set_option maxRecDepth 100000
/-- noise n of s -/
def noiN (s : List UInt8) (n : Nat) : Nat → Nat := cbdF 2 (litN (spongeL 136 31 (s ++ [UInt8.ofNat n]) 128))
theorem noiN_lt (s : List UInt8) (n i : Nat) : noiN s n i < 65536 := Nat.lt_trans (cbdX_lt _ _) (by decide)
theorem spongeL_length (rate : Nat) (suf : UInt8) (m : List UInt8) (n : Nat) : (spongeL rate suf m n).length = n := by
 unfold spongeL
 exact Sp.outs_length _ _ _
set_option maxHeartbeats 2000000 in
theorem noise_any (s : List UInt8) (n : Nat) (hn : n < 256) (B : Nat) (v : Value) (w : World) (hs : Sl w B v s) (hB : B ≤ w.heap.size) (hv : KVars w) : Calls Tryd.prog 50 #[v, .int .i64 (n : Int)] w (PolyIs w (noiN s n)) := by
 unfold PolyIs polyV
 have hpos := hv.pos
 generalize hN : w.heap.size = N at *
 obtain ⟨m, hm⟩ : ∃ m, Shh (m = spongeL 136 31 [s, [UInt8.ofNat n]].flatten 128) := ⟨_, ⟨rfl⟩⟩
 have HML : Shh (m.length = 128) := ⟨by rw [hm.out]; exact spongeL_length _ _ _ _⟩
 obtain ⟨FF, hFF⟩ : ∃ F, F = noiN s n := ⟨_, rfl⟩
 have HSK : Shh (∀ W B' u, PartsO W B' B' u [s, [UInt8.ofNat n]] → B' ≤ W.heap.size → KVars W → Calls Tryd.prog 32 #[.int .i64 256, .int .i64 128, u] W (ShakeIs W 128 m)) := ⟨fun W B' u hp hB hv => by
  rw [hm.out]
  exact shake_ok256 128 (by decide) _ (by simp) B' u W hp hB hv⟩
 have HC : Shh (∀ W B' u, Sl W B' u m → B' ≤ W.heap.size → Calls Tryd.prog 75 #[.int .i64 2, u] W (CodeIs W FF 0)) := ⟨fun W B' u hs hB => by
  rw [hFF]
  have h := Cbd_2 B' u m HML.out W hs hB
  rw [show noiN s n = cbdF 2 (litN m) by rw [hm.out]; unfold noiN; simp]
  exact h⟩
 rw [← hFF]
 clear hFF hm
 obtain ⟨A, c, rfl, _, _⟩ := hs.form
 have HS0 : Shh (Sl w B (.slice A s.length c) s ∧ B ≤ N ∧ KVars w ∧ w.heap.size = N ∧ 0 < N) := ⟨hs, hB, hv, hN, hpos⟩
 clear hs hB hv hN hpos
 generalize s.length = ln at *
 go_enter Tryd.func50, Tryd.ntmps50
 go_wp2_with (refine wl_allocS 4 rfl rfl rfl ?_)
 intro N1 w2 hN1 r2 b2
 simp only [Act.put, arr9, hd9, tl9]
 obtain rfl : N = N1 := HS0.out.2.2.2.1.symm.trans hN1.out.symm
 obtain ⟨M, hM⟩ : ∃ M, Shh (M = w2.heap.size) := ⟨_, ⟨rfl⟩⟩
 have HI : Shh (Sl w2 M (.slice A ln c) s ∧ KVars w2 ∧ Row w2 N 62 (pc fun _ => 0) ∧ Below N w w2 ∧ N < M) := by
  obtain ⟨h1, h2, h3, h4, h5⟩ := HS0.out
  rw [h4] at b2
  have := r2.lt
  rw [hM.out]
  exact ⟨⟨(h1.below (b2.mono h2)).more (by omega), h3.step (h4.symm ▸ b2), r2, b2, r2.lt⟩⟩
 clear r2 b2 hN1 HS0
 go_wp2_with (first | refine wl_at 7 rfl (.int .u8 (n : Int)) rfl (conv_i8 hn rfl rfl) ?_ | (go_at_call 32; refine (HSK.out _ (w2.heap.size + 1 + 1) _ (parts_two (by rw [asz]) ((HI.out.1.below ((bel1 _ _).mono (Nat.le_of_eq hM.out))).more (by have := hM.out; omega)) (bytes_one hn rfl)) (by rw [asz, asz]; exact Nat.le_refl _) (HI.out.2.1.step (Below.chain (bel1 w2 _) (bel1 _ _)))).mono ?_))
 rintro e w3 ⟨q, rfl, hq, hr, b3⟩
 have HJ : Shh (Sl w3 w3.heap.size (.slice (some ⟨q, 0, none⟩) 128 128) m ∧ Row w3 N 62 (pc fun _ => 0) ∧ Below N w w3 ∧ N < w3.heap.size) := by
  obtain ⟨h1, h2, h3, h4, h5⟩ := HI.out
  have hMM := hM.out
  have b5 := Below.chain (Below.chain (bel1 w2 _) (bel1 _ _)) b3
  exact ⟨Sl.of_bytes hr hr.lt HML.out (by decide), h3.go b5, h4.trans (b5.mono (by omega)), Nat.lt_of_lt_of_le (hMM ▸ h5) b5.size⟩
 clear hq hr b3 HI hM
 go_wp2_with (go_at_call 31; refine (sureB_ok _ w3).mono ?_)
 rintro e w4 ⟨rfl, rfl⟩
 go_wp2_with (go_at_call 75; refine (HC.out w3 _ _ HJ.out.1 (Nat.le_refl _)).mono ?_)
 rintro e w4 ⟨rfl, b4⟩
 have HK : Shh (Row w4 N 62 (pc fun _ => 0) ∧ Below N w w4 ∧ N < w4.heap.size) := by
  obtain ⟨h1, h3, h4, h5⟩ := HJ.out
  exact ⟨h3.go b4, h4.trans (b4.mono (Nat.le_of_lt h5)), Nat.lt_of_lt_of_le h5 b4.size⟩
 clear b4 HJ HC
 go_wp2_with (go_at_call 73; refine (sureP_ok FF w4).mono ?_)
 rintro e w5 ⟨rfl, b5⟩
 have HK2 : Shh (Row w5 N 62 (pc fun _ => 0) ∧ Below N w w5) := by
  obtain ⟨h3, h4, h5⟩ := HK.out
  exact ⟨h3.go b5, h4.trans (b5.mono (Nat.le_of_lt h5))⟩
 clear b5 HK
 go_wp2_with (refine wpList_store_any rfl 62 (.tmp 4) (.tmp 17) rfl N rfl (pc FF) rfl 62 _ HK2.out.1 (info_poly.trans (size_poly _)) (by rw [pc_length, pc_length]) (pc_one _) ?_)
 intro w9 hr9 b9 _
 have hb9 : Below N w w9 := HK2.out.2.trans (b9.under (Nat.le_of_lt HK2.out.1.lt) (Nat.le_refl _))
 go_wp2
 exact ret_row Tryd.results50 rfl rfl hr9 Tryd.underlying62 rfl (info_poly.trans (size_poly _)) ⟨rfl, hb9⟩
/-- piece i of bytes, d bits a number -/
def pieceB (d : Nat) (bs : List UInt8) (i : Nat) : List UInt8 := (bs.take ((i + 1) * (32 * d))).drop (i * (32 * d))
theorem pieceB_length (d : Nat) (bs : List UInt8) (i : Nat) (h : (i + 1) * (32 * d) ≤ bs.length) : (pieceB d bs i).length = 32 * d := by
 unfold pieceB
 rw [List.length_drop, List.length_take, Nat.min_eq_left h, Nat.succ_mul]
 omega
/-- a part of what was there is handed back, and the world is as it was -/
def CutIs (w : World) (B : Nat) (bs : List UInt8) (e : Ending) (w' : World) : Prop := ∃ v, e = .returned v ∧ Sl w B v bs ∧ w = w'
set_option maxHeartbeats 1000000 in
theorem piece_any (d i : Nat) (hd : d ≤ 12) (hi : i < 3) (bs : List UInt8) (h : (i + 1) * (32 * d) ≤ bs.length) (B : Nat) (v : Value) (w : World) (hs : Sl w B v bs) : Calls Tryd.prog 55 #[.int .i64 (d : Int), v, .int .i64 (i : Int)] w (CutIs w B (pieceB d bs i)) := by
 unfold CutIs pieceB
 obtain ⟨S, hS⟩ : ∃ S, Shh (S = 32 * d ∧ S ≤ 384) := ⟨_, ⟨rfl, by omega⟩⟩
 rw [← hS.out.1] at h ⊢
 obtain ⟨i1, hi1⟩ : ∃ S, Shh (S = i + 1 ∧ S ≤ 1000000000000 ∧ S ≤ 3) := ⟨_, ⟨rfl, by omega, by omega⟩⟩
 rw [← hi1.out.1] at h ⊢
 have b1 : i * S ≤ 1000000000000 := Nat.le_trans (Nat.mul_le_mul (Nat.le_of_lt hi) hS.out.2) (by decide)
 have b2 : i1 * S ≤ 1000000000000 := Nat.le_trans (Nat.mul_le_mul hi1.out.2.2 hS.out.2) (by decide)
 have hle : i * S ≤ i1 * S := Nat.mul_le_mul_right _ (by have := hi1.out.1; omega)
 obtain ⟨P1, hP1⟩ : ∃ S', Shh (S' = i * S) := ⟨_, ⟨rfl⟩⟩
 obtain ⟨P2, hP2⟩ : ∃ S', Shh (S' = i1 * S) := ⟨_, ⟨rfl⟩⟩
 rw [← hP1.out] at hle b1 ⊢
 rw [← hP2.out] at hle b2 h ⊢
 have HB := Shh.mk (And.intro b1 b2)
 have HB2 : Shh (S ≤ 1000000000000 ∧ P1 ≤ P2 ∧ P2 ≤ bs.length) := ⟨by have := hS.out; omega, hle, h⟩
 obtain ⟨A, c, rfl, _, _⟩ := hs.form
 have HS := Shh.mk hs
 clear hs b1 b2 hle h
 go_enter Tryd.func55, Tryd.ntmps55
 go_wp2_with (first | refine wl_at 9 rfl (.int .i64 (S : Int)) rfl (mul_iin (i := 32) (j := d) hS.out.1 HB2.out.1 rfl rfl rfl) ?_ | refine wl_at 13 rfl (.int .i64 (P1 : Int)) rfl (mul_iin (i := i) (j := S) hP1.out HB.out.1 rfl rfl rfl) ?_ | refine wl_at 15 rfl (.int .i64 (i1 : Int)) rfl (add_ii (i := i) (j := 1) ⟨hi1.out.1, hi1.out.2.1⟩ rfl rfl rfl) ?_ | refine wl_at 17 rfl (.int .i64 (P2 : Int)) rfl (mul_iin (i := i1) (j := S) hP2.out HB.out.2 rfl rfl rfl) ?_ | refine wl_cut P1 P2 rfl rfl rfl rfl rfl HS.out HB2.out.2.1 HB2.out.2.2 ?_)
 intro v' hs'
 have HS' := Shh.mk hs'
 clear hs'
 go_wp2
 go_ret
 exact ⟨v', rfl, HS'.out, rfl⟩
theorem cmpP_lt (d : Nat) (hd : d ≤ 12) (p : Nat → Nat) (i : Nat) : cmpP d p i < 65536 := Nat.lt_of_lt_of_le (cmpN_lt d _) (Nat.le_trans (Nat.pow_le_pow_right (by decide) (show d ≤ 16 by omega)) (by decide))
theorem dcmP_lt (d : Nat) (hd : d ≤ 12) (p : Nat → Nat) (i : Nat) : dcmP d p i < 65536 := dcmN_lt d _ hd (Nat.mod_lt _ (Nat.two_pow_pos d))
/-- numbers of d bits, as bytes -/
def narB (d : Nat) (p : Nat → Nat) : List UInt8 := encB d (cmpP d p)
def widF (d : Nat) (bs : List UInt8) : Nat → Nat := dcmP d (decF d (litN bs))
set_option maxHeartbeats 1000000 in
theorem narrowed_any (d : Nat) (hd : 1 ≤ d ∧ d ≤ 11) (p : Nat → Nat) (hp : ∀ i, i < 256 → p i < 65536) (w : World) : Calls Tryd.prog 54 #[.int .i64 (d : Int), polyV p] w (OwnIs w (narB d p)) := by
 unfold OwnIs polyV narB
 have HL0 : Shh (Row (w.alloc (.cells (pc p).toArray 62)) w.heap.size 62 (pc p) ∧ Below w.heap.size w (w.alloc (.cells (pc p).toArray 62))) := ⟨Row.new_ rfl rfl, bel1 _ _⟩
 have HC : Shh (∀ W, Calls Tryd.prog 81 #[.int .i64 (d : Int), .agg (pc p).toArray] W (CodeIs W (cmpP d p) 0)) := ⟨fun W => Compress_any d hd p hp W⟩
 have HE : Shh (∀ W, Calls Tryd.prog 67 #[.int .i64 (d : Int), .agg (pc (cmpP d p)).toArray] W (PutIs W 0 (encB d (cmpP d p)))) := ⟨fun W => Encode_any d ⟨hd.1, by omega⟩ _ (fun i _ => cmpP_lt d (by omega) p i) W⟩
 generalize encB d (cmpP d p) = bs at *
 generalize cmpP d p = q at *
 clear hp hd
 go_enter Tryd.func54, Tryd.ntmps54
 go_wp2_with (first | refine wpList_load_any rfl 62 (.tmp 3) rfl w.heap.size rfl 62 (pc p) (.array 256 39) HL0.out.1 Tryd.underlying62 rfl (info_poly.trans (size_poly p)) ?_ | (go_at_call 81; refine (HC.out _).mono ?_))
 rintro e w2 ⟨rfl, b2⟩
 have HI : Shh (Below w.heap.size w w2) := ⟨Below.chain HL0.out.2 b2⟩
 clear b2 HC HL0
 go_wp2_with (go_at_call 73; refine (sureP_ok q w2).mono ?_)
 rintro e w3 ⟨rfl, b3⟩
 have HJ : Shh (Below w.heap.size w w3) := ⟨Below.chain HI.out b3⟩
 clear b3 HI
 go_wp2_with (go_at_call 67; refine (HE.out w3).mono ?_)
 rintro e w4 ⟨u, rfl, hu, b4⟩
 have HK : Shh (w4.ownsRow w.heap.size 5 1 u bs.length (Lib.byteCells bs) ∧ Below w.heap.size w w4) := ⟨kown_mono hu HJ.out.size, Below.chain HJ.out b4⟩
 clear hu b4 HJ HE
 go_wp2_with (go_at_call 31; refine (sureB_ok _ w4).mono ?_)
 rintro e w5 ⟨rfl, rfl⟩
 go_wp2
 go_ret
 exact ⟨u, rfl, HK.out.1, HK.out.2⟩
set_option maxHeartbeats 1000000 in
theorem widened_any (d : Nat) (hd : 1 ≤ d ∧ d ≤ 11) (B : Nat) (v : Value) (bs : List UInt8) (hl : bs.length = 32 * d) (w : World) (hs : Sl w B v bs) (hB : B ≤ w.heap.size) : Calls Tryd.prog 53 #[.int .i64 (d : Int), v] w (PolyIs w (widF d bs)) := by
 unfold PolyIs polyV widF
 have HC : Shh (∀ W, Sl W B v bs → B ≤ W.heap.size → Calls Tryd.prog 74 #[.int .i64 (d : Int), v] W (CodeIs W (decF d (litN bs)) 0)) := ⟨fun W hs hB => Decode_any d ⟨hd.1, by omega⟩ B v bs hl W hs hB⟩
 have HE : Shh (∀ W, Calls Tryd.prog 80 #[.int .i64 (d : Int), .agg (pc (decF d (litN bs))).toArray] W (CodeIs W (dcmP d (decF d (litN bs))) 0)) := ⟨fun W => Decompress_any d hd _ (fun i _ => decF_16 d _ i (by omega)) W⟩
 generalize dcmP d (decF d (litN bs)) = q at *
 generalize decF d (litN bs) = p at *
 generalize hN : w.heap.size = N at *
 obtain ⟨A, c, rfl, _, _⟩ := hs.form
 have HS0 : Shh (Sl w B (.slice A bs.length c) bs ∧ B ≤ N ∧ w.heap.size = N) := ⟨hs, hB, hN⟩
 clear hs hB hN hl hd
 go_enter Tryd.func53, Tryd.ntmps53
 go_wp2_with (refine wl_allocS 4 rfl rfl rfl ?_)
 intro N1 w2 hN1 r2 b2
 simp only [Act.put, arr9, hd9, tl9]
 obtain rfl : N = N1 := HS0.out.2.2.symm.trans hN1.out.symm
 have HI : Shh (Sl w2 B (.slice A bs.length c) bs ∧ Row w2 N 62 (pc fun _ => 0) ∧ Below N w w2 ∧ N < w2.heap.size ∧ B ≤ w2.heap.size) := by
  obtain ⟨h1, h2, h4⟩ := HS0.out
  rw [h4] at b2
  have := r2.lt
  exact ⟨h1.below (b2.mono h2), r2, b2, r2.lt, by omega⟩
 clear r2 b2 hN1 HS0
 go_wp2_with (go_at_call 74; refine (HC.out w2 HI.out.1 HI.out.2.2.2.2).mono ?_)
 rintro e w3 ⟨rfl, b3⟩
 have HJ : Shh (Row w3 N 62 (pc fun _ => 0) ∧ Below N w w3 ∧ N < w3.heap.size) := by
  obtain ⟨h1, h3, h4, h5, _⟩ := HI.out
  exact ⟨h3.go b3, h4.trans (b3.mono (Nat.le_of_lt h5)), Nat.lt_of_lt_of_le h5 b3.size⟩
 clear b3 HI HC
 go_wp2_with (go_at_call 73; refine (sureP_ok p w3).mono ?_)
 rintro e w4 ⟨rfl, b4⟩
 have HK : Shh (Row w4 N 62 (pc fun _ => 0) ∧ Below N w w4 ∧ N < w4.heap.size) := by
  obtain ⟨h3, h4, h5⟩ := HJ.out
  exact ⟨h3.go b4, h4.trans (b4.mono (Nat.le_of_lt h5)), Nat.lt_of_lt_of_le h5 b4.size⟩
 clear b4 HJ
 go_wp2_with (go_at_call 80; refine (HE.out w4).mono ?_)
 rintro e w5 ⟨rfl, b5⟩
 have HJ : Shh (Row w5 N 62 (pc fun _ => 0) ∧ Below N w w5 ∧ N < w5.heap.size) := by
  obtain ⟨h3, h4, h5⟩ := HK.out
  exact ⟨h3.go b5, h4.trans (b5.mono (Nat.le_of_lt h5)), Nat.lt_of_lt_of_le h5 b5.size⟩
 clear b5 HK HE
 go_wp2_with (go_at_call 73; refine (sureP_ok q w5).mono ?_)
 rintro e w6 ⟨rfl, b6⟩
 have HK2 : Shh (Row w6 N 62 (pc fun _ => 0) ∧ Below N w w6) := by
  obtain ⟨h3, h4, h5⟩ := HJ.out
  exact ⟨h3.go b6, h4.trans (b6.mono (Nat.le_of_lt h5))⟩
 clear b6 HJ
 go_wp2_with (refine wpList_store_any rfl 62 (.tmp 4) (.tmp 15) rfl N rfl (pc q) rfl 62 _ HK2.out.1 (info_poly.trans (size_poly _)) (by rw [pc_length, pc_length]) (pc_one _) ?_)
 intro w9 hr9 b9 _
 have hb9 : Below N w w9 := HK2.out.2.trans (b9.under (Nat.le_of_lt HK2.out.1.lt) (Nat.le_refl _))
 go_wp2
 exact ret_row Tryd.results53 rfl rfl hr9 Tryd.underlying62 rfl (info_poly.trans (size_poly _)) ⟨rfl, hb9⟩
end Go.Proofs.YtbjpbeplpljieaaDoor

/-
 FUNCTIONS of kem with a loop: transforms.
-/
namespace Go.Proofs.YtbjpbeplpljieaaDoor
open Go.RowKit
set_option maxRecDepth 100000
def nttV (V : Nat → Nat → Nat) (k : Nat) : Nat → Nat := nttN (V k)
theorem nttV_lt (V : Nat → Nat → Nat) (k i : Nat) : nttV V k i < 65536 := rd_16 _
set_option maxHeartbeats 2000000 in
theorem transforms_any (V : Nat → Nat → Nat) (hV : ∀ k, k < 3 → ∀ i, i < 256 → V k i < 65536) (w : World) : Calls Tryd.prog 40 #[vecV V] w (VecIs w (nttV V)) := by
 unfold VecIs vecV
 generalize hN : w.heap.size = N at *
 have HC : Shh (∀ k, k < 3 → ∀ W, Calls Tryd.prog 62 #[.agg (pc (V k)).toArray] W (PolyIs W (nttV V k))) := ⟨fun k hk W => Ntt_any (V k) (hV k hk) W⟩
 generalize nttV V = U at *
 clear hV
 have HL0 : Shh (Row ((w.alloc (.cells (vc V).toArray 64)).alloc (.cells (vc zV).toArray 64)) N 64 (vc V) ∧ Row ((w.alloc (.cells (vc V).toArray 64)).alloc (.cells (vc zV).toArray 64)) (N + 1) 64 (vc zV) ∧ Below N w ((w.alloc (.cells (vc V).toArray 64)).alloc (.cells (vc zV).toArray 64))) := by
  refine ⟨(Row.new_ hN.symm rfl).alloc _, Row.new_ (by rw [asz, hN]) rfl, ?_⟩
  rw [← hN]
  exact Below.chain (bel1 _ _) (bel1 _ _)
 go_enter Tryd.func40, Tryd.ntmps40
 go_wp2_with (refine wl_allocV rfl rfl ?_)
 obtain ⟨W0, hW0⟩ : ∃ W0, W0 = (w.alloc (.cells (vc V).toArray 64)).alloc (.cells (vc zV).toArray 64) := ⟨_, rfl⟩
 rw [← hW0] at HL0 ⊢
 clear hW0 hN
 go_loopw [4] (fun c wr => ∃ k : Nat, k ≤ 3 ∧ c = .int .i64 (k : Int) ∧ Shh (Row wr N 64 (vc (hfV U V k)) ∧ Row wr (N + 1) 64 (vc zV) ∧ Below N w wr)) (fun c _ => 3 - (intOf c).toNat)
 case atStart => exact ⟨0, Nat.zero_le _, rfl, ⟨by rw [hfV_zero]; exact HL0.out⟩⟩
 case round =>
  clear HL0
  obtain ⟨k, hk, rfl, HI⟩ := hrel
  by_cases hlt : k < 3
  ·have hlt2 : (k : Int) < 3 := by omega
   obtain ⟨O, hO⟩ : ∃ O, Shh (O = 256 * k) := ⟨_, ⟨rfl⟩⟩
   have HN := Shh.mk (And.intro (hfV_next U V k) (hfV_at U V k))
   go_wp2_with (first | refine wl_at 9 rfl (.pointer (some ⟨N, O, none⟩)) rfl (run_atV hlt hO.out rfl rfl rfl) ?_ | refine wl_loadE HN.out.2 rfl hlt hO.out rfl rfl HI.out.1 ?_ | (go_at_call 62; refine (HC.out k hlt _).mono ?_))
   rintro e w2 ⟨rfl, b2⟩
   have HI2 : Shh (Row w2 N 64 (vc (hfV U V k)) ∧ Row w2 (N + 1) 64 (vc zV) ∧ Below N w w2) := ⟨HI.out.1.go b2, HI.out.2.1.go b2, HI.out.2.2.trans (b2.mono (Nat.le_of_lt HI.out.1.lt))⟩
   clear b2 HI
   go_wp2_with (first | refine wl_at 12 rfl (.pointer (some ⟨N, O, none⟩)) rfl (run_atV hlt hO.out rfl rfl rfl) ?_ | refine wl_storeE rfl rfl hlt hO.out rfl rfl rfl HI2.out.1 ?_)
   intro w3 r3 b3 z3
   rw [HN.out.1] at r3
   have HI3 : Shh (Row w3 N 64 (vc (hfV U V (k + 1))) ∧ Row w3 (N + 1) 64 (vc zV) ∧ Below N w w3) := ⟨r3, b3.row HI2.out.2.1 HI2.out.2.1.lt (by omega), HI2.out.2.2.trans (b3.under (Nat.le_of_lt HI2.out.1.lt) (Nat.le_refl _))⟩
   clear r3 b3 z3 HI2
   go_wp2
   go_roundw
   case rel => exact ⟨k + 1, by omega, by go_num, HI3⟩
   case measure => simp [intOf]; omega
  ·have HL : Shh (vc (hfV U V k) = vc U) := ⟨by rw [show k = 3 by omega]; exact hfV_all _ _⟩
   rw [HL.out] at HI
   have hlt2 : ¬ (k : Int) < 3 := by omega
   clear HL HC
   go_wp2_with (first
    | refine wpList_load_any rfl 64 (.tmp 1) rfl N rfl 64 (vc U) (.array 3 62) HI.out.1 Tryd.underlying64 rfl (info_vec.trans (size_vec U)) ?_
    | refine wpList_store_any rfl 64 (.tmp 2) (.tmp 14) rfl (N + 1) rfl (vc U) rfl 64 _ HI.out.2.1 (info_vec.trans (size_vec U)) (by rw [vc_length, vc_length]) (vc_one U) ?_)
   intro w9 hr9 b9 _
   have hb9 := HI.out.2.2.trans (b9.under (Nat.le_of_lt HI.out.1.lt) (Nat.le_succ _))
   go_wp2
   exact ret_row Tryd.results40 rfl rfl hr9 Tryd.underlying64 rfl (info_vec.trans (size_vec U)) ⟨rfl, hb9⟩
end Go.Proofs.YtbjpbeplpljieaaDoor

/-
 FUNCTIONS of kem with a loop: noises, row, column, unpacked.
-/
namespace Go.Proofs.YtbjpbeplpljieaaDoor
open Go.RowKit
set_option maxRecDepth 100000
def noisV (s : List UInt8) (n k : Nat) : Nat → Nat := noiN s (n + k)
def rowV (rho : List UInt8) (i j : Nat) : Nat → Nat := elF rho i j
def colV (rho : List UInt8) (j i : Nat) : Nat → Nat := elF rho i j
def unV (bs : List UInt8) (k : Nat) : Nat → Nat := decF 12 (litN (pieceB 12 bs k))
theorem acc_lt (xs : Nat → Nat) : ∀ k, ∀ x ∈ acc xs k, x < 3329
 | 0 => by simp [acc]
 | k + 1 => by
  intro x hx
  have ih := acc_lt xs k
  unfold acc stepS at hx
  split at hx
  ·rename_i h
   rcases List.mem_append.1 hx with h1 | h1
   ·exact ih x h1
   ·rw [List.mem_singleton.1 h1]; exact h.1
  ·exact ih x hx
theorem smpF_lt (xs : Nat → Nat) (i : Nat) : smpF xs i < 3329 := by
 unfold smpF
 split
 ·show 0 < 3329; decide
 ·unfold lF
  rw [List.getD_eq_getElem?_getD]
  by_cases h : i < (acc xs 2048).length
  ·rw [List.getElem?_eq_getElem h]; exact acc_lt xs _ _ (List.getElem_mem h)
  ·rw [List.getElem?_eq_none (by omega)]; show 0 < 3329; decide
theorem elF_lt (rho : List UInt8) (i j k : Nat) : elF rho i j k < 65536 := Nat.lt_trans (smpF_lt _ _) (by decide)
set_option maxHeartbeats 2000000 in
theorem noises_any (s : List UInt8) (n : Nat) (hn : n + 3 ≤ 256) (B : Nat) (v : Value) (w : World) (hs : Sl w B v s) (hB : B ≤ w.heap.size) (hv : KVars w) : Calls Tryd.prog 41 #[v, .int .i64 (n : Int)] w (VecIs w (noisV s n)) := by
 unfold VecIs vecV
 have hpos := hv.pos
 generalize hN : w.heap.size = N at *
 obtain ⟨U, hU⟩ : ∃ U, Shh (U = noisV s n) := ⟨_, ⟨rfl⟩⟩
 have HC : Shh (∀ k : Nat, k < 3 → ∀ W B' u m, m = n + k → Sl W B' u s → B' ≤ W.heap.size → KVars W → Calls Tryd.prog 50 #[u, .int .i64 (m : Int)] W (PolyIs W (U k))) := ⟨fun k hk W B' u m hm hs hB hv => by
  rw [hU.out]
  have h := noise_any s m (by omega) B' u W hs hB hv
  rw [hm] at h ⊢
  exact h⟩
 rw [← hU.out]
 obtain ⟨A, c, rfl, _, _⟩ := hs.form
 have HS0 : Shh (Sl w B (.slice A s.length c) s ∧ B ≤ N ∧ KVars w ∧ 0 < N ∧ w.heap.size = N) := ⟨hs, hB, hv, hpos, hN⟩
 have hN0 := Shh.mk hN
 clear hs hB hv hpos hN
 generalize s.length = ln at *
 go_enter Tryd.func41, Tryd.ntmps41
 go_wp2_with (refine wl_zeroV 4 rfl rfl rfl ?_)
 intro N1 w2 hN1 r2 b2
 simp only [Act.put, arr9, hd9, tl9]
 obtain rfl : N = N1 := hN0.out.symm.trans hN1.out.symm
 have HI : Shh (Sl w2 B (.slice A ln c) s ∧ B ≤ N ∧ KVars w2 ∧ 0 < N ∧ Row w2 N 64 (vc zV) ∧ Below N w w2) := by
  obtain ⟨h1, h2, hv, hp, h4⟩ := HS0.out
  rw [h4] at b2
  exact ⟨h1.below (b2.mono h2), h2, hv.step (h4.symm ▸ b2), hp, r2, b2⟩
 clear r2 b2 hN1 HS0
 go_wp2_with (refine wl_zeroV 5 rfl rfl rfl ?_)
 intro G w3 hG r3 b3
 simp only [Act.put, arr9, hd9, tl9]
 have HJ : Shh (Sl w3 B (.slice A ln c) s ∧ B ≤ N ∧ KVars w3 ∧ 0 < N ∧ Row w3 N 64 (vc zV) ∧ Row w3 G 64 (vc zV) ∧ Below N w w3 ∧ N < G) := by
  obtain ⟨h1, h2, hv, hp, h4, h5⟩ := HI.out
  have := h4.lt
  exact ⟨h1.below (b3.mono (by omega)), h2, hv.step b3, hp, h4.go b3, r3, h5.trans (b3.mono (by omega)), by rw [hG.out]; exact h4.lt⟩
 clear r3 b3 hG HI
 go_wp2
 go_loopw [7] (fun cc wr => ∃ k : Nat, k ≤ 3 ∧ cc = .int .i64 (k : Int) ∧ Shh (Sl wr B (.slice A ln c) s ∧ B ≤ N ∧ KVars wr ∧ 0 < N ∧ Row wr N 64 (vc zV) ∧ Row wr G 64 (vc (hfV U zV k)) ∧ Below N w wr ∧ N < G)) (fun cc _ => 3 - (intOf cc).toNat)
 case atStart => exact ⟨0, Nat.zero_le _, rfl, ⟨by rw [hfV_zero]; exact HJ.out⟩⟩
 case round =>
  clear HJ
  obtain ⟨k, hk, rfl, HI⟩ := hrel
  by_cases hlt : k < 3
  ·have hlt2 : (k : Int) < 3 := by omega
   obtain ⟨O, hO⟩ : ∃ O, Shh (O = 256 * k) := ⟨_, ⟨rfl⟩⟩
   have HN := Shh.mk (hfV_next U zV k)
   obtain ⟨m, hm⟩ : ∃ m, Shh (m = n + k ∧ m ≤ 1000000000000) := ⟨_, ⟨rfl, by omega⟩⟩
   go_wp2_with (first | refine wl_at 14 rfl (.int .i64 (m : Int)) rfl (add_ii (i := n) (j := k) hm.out rfl rfl rfl) ?_ | (go_at_call 50; refine (HC.out k hlt _ B _ m hm.out.1 HI.out.1 (by have := HI.out.2.2.2.2.1.lt; have := HI.out.2.1; omega) HI.out.2.2.1).mono ?_))
   rintro e w4 ⟨rfl, b4⟩
   have HI2 : Shh (Sl w4 B (.slice A ln c) s ∧ B ≤ N ∧ KVars w4 ∧ 0 < N ∧ Row w4 N 64 (vc zV) ∧ Row w4 G 64 (vc (hfV U zV k)) ∧ Below N w w4 ∧ N < G) := by
    obtain ⟨h1, h2, hv, hp, h4, h5, h6, h7⟩ := HI.out
    have := h4.lt
    exact ⟨h1.below (b4.mono (by omega)), h2, hv.step b4, hp, h4.go b4, h5.go b4, h6.trans (b4.mono (by omega)), h7⟩
   clear b4 HI
   go_wp2_with (first | refine wl_at 16 rfl (.pointer (some ⟨G, O, none⟩)) rfl (run_atV hlt hO.out rfl rfl rfl) ?_ | refine wl_storeE rfl rfl hlt hO.out rfl rfl rfl HI2.out.2.2.2.2.2.1 ?_)
   intro w3 r3 b3 z3
   rw [HN.out] at r3
   have HI3 : Shh (Sl w3 B (.slice A ln c) s ∧ B ≤ N ∧ KVars w3 ∧ 0 < N ∧ Row w3 N 64 (vc zV) ∧ Row w3 G 64 (vc (hfV U zV (k + 1))) ∧ Below N w w3 ∧ N < G) := by
    obtain ⟨h1, h2, hv, hp, h4, h5, h6, h7⟩ := HI2.out
    have hb := b3.under (Nat.le_of_lt h5.lt) (Nat.le_refl _)
    exact ⟨h1.below (hb.mono (by omega)), h2, hv.but b3 (by omega), hp, h4.below hb h7, r3, h6.trans (hb.mono (Nat.le_of_lt h7)), h7⟩
   clear r3 b3 z3 HI2
   go_wp2
   go_roundw
   case rel => exact ⟨k + 1, by omega, by go_num, HI3⟩
   case measure => simp [intOf]; omega
  ·have HL : Shh (vc (hfV U zV k) = vc U) := ⟨by rw [show k = 3 by omega]; exact hfV_all _ _⟩
   rw [HL.out] at HI
   have hlt2 : ¬ (k : Int) < 3 := by omega
   clear HL
   go_wp2_with (first
    | refine wpList_load_any rfl 64 (.tmp 5) rfl G rfl 64 (vc U) (.array 3 62) HI.out.2.2.2.2.2.1 Tryd.underlying64 rfl (info_vec.trans (size_vec U)) ?_
    | refine wpList_store_any rfl 64 (.tmp 4) (.tmp 18) rfl N rfl (vc U) rfl 64 _ HI.out.2.2.2.2.1 (info_vec.trans (size_vec U)) (by rw [vc_length, vc_length]) (vc_one U) ?_)
   intro w9 hr9 b9 _
   have hb9 := HI.out.2.2.2.2.2.2.1.trans (b9.under (Nat.le_of_lt HI.out.2.2.2.2.1.lt) (Nat.le_refl _))
   go_wp2
   exact ret_row Tryd.results41 rfl rfl hr9 Tryd.underlying64 rfl (info_vec.trans (size_vec U)) ⟨rfl, hb9⟩
set_option maxHeartbeats 2000000 in
theorem row_any (rho : List UInt8) (hl : rho.length = 32) (i : Nat) (hi : i < 3) (B : Nat) (v : Value) (w : World) (hs : Sl w B v rho) (hB : B ≤ w.heap.size) (hv : KVars w) : Calls Tryd.prog 44 #[v, .int .i64 (i : Int)] w (OrPan (∀ k : Nat, k < 3 → elOk rho i k) w (VecIs w (rowV rho i))) := by
 unfold VecIs vecV
 have hpos := hv.pos
 generalize hN : w.heap.size = N at *
 obtain ⟨U, hU⟩ : ∃ U, Shh (U = rowV rho i) := ⟨_, ⟨rfl⟩⟩
 obtain ⟨okE, hokE⟩ : ∃ okE : Nat → Prop, okE = fun k => elOk rho i k := ⟨_, rfl⟩
 have HC : Shh (∀ k : Nat, k < 3 → ∀ W B' u, Sl W B' u rho → B' ≤ W.heap.size → KVars W → Calls Tryd.prog 66 #[u, .int .i64 (i : Int), .int .i64 (k : Int)] W (OrPan (okE k) W (PolyIs W (U k)))) := ⟨fun k hk W B' u hs hB hv => by
  rw [hU.out, hokE]
  exact element_any rho hl i k (by omega) (by omega) B' u W hs hB hv⟩
 have HOK : Shh ((∀ k : Nat, k < 3 → elOk rho i k) = ∀ k : Nat, k < 3 → okE k) := ⟨by rw [hokE]⟩
 rw [HOK.out]
 rw [← hU.out]
 obtain ⟨A, c, rfl, _, _⟩ := hs.form
 have HS0 : Shh (Sl w B (.slice A rho.length c) rho ∧ B ≤ N ∧ KVars w ∧ 0 < N ∧ w.heap.size = N) := ⟨hs, hB, hv, hpos, hN⟩
 have hN0 := Shh.mk hN
 clear hs hB hv hpos hN hokE hl
 generalize rho.length = ln at *
 go_enter Tryd.func44, Tryd.ntmps44
 go_wp2_with (refine wl_zeroV 4 rfl rfl rfl ?_)
 intro N1 w2 hN1 r2 b2
 simp only [Act.put, arr9, hd9, tl9]
 obtain rfl : N = N1 := hN0.out.symm.trans hN1.out.symm
 have HI : Shh (Sl w2 B (.slice A ln c) rho ∧ B ≤ N ∧ KVars w2 ∧ 0 < N ∧ Row w2 N 64 (vc zV) ∧ Below N w w2) := by
  obtain ⟨h1, h2, hv, hp, h4⟩ := HS0.out
  rw [h4] at b2
  exact ⟨h1.below (b2.mono h2), h2, hv.step (h4.symm ▸ b2), hp, r2, b2⟩
 clear r2 b2 hN1 HS0
 go_wp2_with (refine wl_zeroV 5 rfl rfl rfl ?_)
 intro G w3 hG r3 b3
 simp only [Act.put, arr9, hd9, tl9]
 have HJ : Shh (Sl w3 B (.slice A ln c) rho ∧ B ≤ N ∧ KVars w3 ∧ 0 < N ∧ Row w3 N 64 (vc zV) ∧ Row w3 G 64 (vc zV) ∧ Below N w w3 ∧ N < G) := by
  obtain ⟨h1, h2, hv, hp, h4, h5⟩ := HI.out
  have := h4.lt
  exact ⟨h1.below (b3.mono (by omega)), h2, hv.step b3, hp, h4.go b3, r3, h5.trans (b3.mono (by omega)), by rw [hG.out]; exact h4.lt⟩
 clear r3 b3 hG HI
 go_wp2
 go_loopw [7] (fun cc wr => ∃ k : Nat, k ≤ 3 ∧ cc = .int .i64 (k : Int) ∧ (∀ j, j < k → okE j) ∧ Shh (Sl wr B (.slice A ln c) rho ∧ B ≤ N ∧ KVars wr ∧ 0 < N ∧ Row wr N 64 (vc zV) ∧ Row wr G 64 (vc (hfV U zV k)) ∧ Below N w wr ∧ N < G)) (fun cc _ => 3 - (intOf cc).toNat)
 case atStart => exact ⟨0, Nat.zero_le _, rfl, fun j hj => absurd hj (Nat.not_lt_zero j), ⟨by rw [hfV_zero]; exact HJ.out⟩⟩
 case round =>
  clear HJ
  obtain ⟨k, hk, rfl, hokk, HI⟩ := hrel
  by_cases hlt : k < 3
  ·have hlt2 : (k : Int) < 3 := by omega
   obtain ⟨O, hO⟩ : ∃ O, Shh (O = 256 * k) := ⟨_, ⟨rfl⟩⟩
   have HN := Shh.mk (hfV_next U zV k)
   by_cases hok : okE k
   case neg =>
    go_wp2_with (go_at_call 66; refine (HC.out k hlt _ B _ HI.out.1 (by have := HI.out.2.2.2.2.1.lt; have := HI.out.2.1; omega) HI.out.2.2.1).mono ?_)
    rintro e w4 ⟨_, h4⟩
    obtain ⟨rfl, b4⟩ := h4 hok
    have hb4 : Below N w w4 := HI.out.2.2.2.2.2.2.1.trans (b4.mono (Nat.le_of_lt HI.out.2.2.2.2.1.lt))
    go_wp2
    exact ⟨rfl, fun h => absurd (h k hlt) hok, fun _ => ⟨rfl, by rw [hN0.out]; exact hb4⟩⟩
   go_wp2_with (go_at_call 66; refine (HC.out k hlt _ B _ HI.out.1 (by have := HI.out.2.2.2.2.1.lt; have := HI.out.2.1; omega) HI.out.2.2.1).mono ?_)
   rintro e w4 ⟨h4, _⟩
   obtain ⟨rfl, b4⟩ := h4 hok
   have HI2 : Shh (Sl w4 B (.slice A ln c) rho ∧ B ≤ N ∧ KVars w4 ∧ 0 < N ∧ Row w4 N 64 (vc zV) ∧ Row w4 G 64 (vc (hfV U zV k)) ∧ Below N w w4 ∧ N < G) := by
    obtain ⟨h1, h2, hv, hp, h4, h5, h6, h7⟩ := HI.out
    have := h4.lt
    exact ⟨h1.below (b4.mono (by omega)), h2, hv.step b4, hp, h4.go b4, h5.go b4, h6.trans (b4.mono (by omega)), h7⟩
   clear b4 HI
   go_wp2_with (first | refine wl_at 15 rfl (.pointer (some ⟨G, O, none⟩)) rfl (run_atV hlt hO.out rfl rfl rfl) ?_ | refine wl_storeE rfl rfl hlt hO.out rfl rfl rfl HI2.out.2.2.2.2.2.1 ?_)
   intro w3 r3 b3 z3
   rw [HN.out] at r3
   have HI3 : Shh (Sl w3 B (.slice A ln c) rho ∧ B ≤ N ∧ KVars w3 ∧ 0 < N ∧ Row w3 N 64 (vc zV) ∧ Row w3 G 64 (vc (hfV U zV (k + 1))) ∧ Below N w w3 ∧ N < G) := by
    obtain ⟨h1, h2, hv, hp, h4, h5, h6, h7⟩ := HI2.out
    have hb := b3.under (Nat.le_of_lt h5.lt) (Nat.le_refl _)
    exact ⟨h1.below (hb.mono (by omega)), h2, hv.but b3 (by omega), hp, h4.below hb h7, r3, h6.trans (hb.mono (Nat.le_of_lt h7)), h7⟩
   clear r3 b3 z3 HI2
   go_wp2
   go_roundw
   case rel => exact ⟨k + 1, by omega, by go_num, fun j hj => by
    by_cases h : j = k
    ·rw [h]; exact hok
    ·exact hokk j (by omega), HI3⟩
   case measure => simp [intOf]; omega
  ·have HL : Shh (vc (hfV U zV k) = vc U) := ⟨by rw [show k = 3 by omega]; exact hfV_all _ _⟩
   rw [HL.out] at HI
   have hlt2 : ¬ (k : Int) < 3 := by omega
   clear HL
   go_wp2_with (first
    | refine wpList_load_any rfl 64 (.tmp 5) rfl G rfl 64 (vc U) (.array 3 62) HI.out.2.2.2.2.2.1 Tryd.underlying64 rfl (info_vec.trans (size_vec U)) ?_
    | refine wpList_store_any rfl 64 (.tmp 4) (.tmp 17) rfl N rfl (vc U) rfl 64 _ HI.out.2.2.2.2.1 (info_vec.trans (size_vec U)) (by rw [vc_length, vc_length]) (vc_one U) ?_)
   intro w9 hr9 b9 _
   have hb9 := HI.out.2.2.2.2.2.2.1.trans (b9.under (Nat.le_of_lt HI.out.2.2.2.2.1.lt) (Nat.le_refl _))
   go_wp2
   exact ret_row Tryd.results44 rfl rfl hr9 Tryd.underlying64 rfl (info_vec.trans (size_vec U)) ⟨fun _ => ⟨rfl, hb9⟩, fun h => absurd (fun j hj => hokk j (by omega)) h⟩
set_option maxHeartbeats 2000000 in
theorem column_any (rho : List UInt8) (hl : rho.length = 32) (i : Nat) (hi : i < 3) (B : Nat) (v : Value) (w : World) (hs : Sl w B v rho) (hB : B ≤ w.heap.size) (hv : KVars w) : Calls Tryd.prog 52 #[v, .int .i64 (i : Int)] w (OrPan (∀ k : Nat, k < 3 → elOk rho k i) w (VecIs w (colV rho i))) := by
 unfold VecIs vecV
 have hpos := hv.pos
 generalize hN : w.heap.size = N at *
 obtain ⟨U, hU⟩ : ∃ U, Shh (U = colV rho i) := ⟨_, ⟨rfl⟩⟩
 obtain ⟨okE, hokE⟩ : ∃ okE : Nat → Prop, okE = fun k => elOk rho k i := ⟨_, rfl⟩
 have HC : Shh (∀ k : Nat, k < 3 → ∀ W B' u, Sl W B' u rho → B' ≤ W.heap.size → KVars W → Calls Tryd.prog 66 #[u, .int .i64 (k : Int), .int .i64 (i : Int)] W (OrPan (okE k) W (PolyIs W (U k)))) := ⟨fun k hk W B' u hs hB hv => by
  rw [hU.out, hokE]
  exact element_any rho hl k i (by omega) (by omega) B' u W hs hB hv⟩
 have HOK : Shh ((∀ k : Nat, k < 3 → elOk rho k i) = ∀ k : Nat, k < 3 → okE k) := ⟨by rw [hokE]⟩
 rw [HOK.out]
 rw [← hU.out]
 obtain ⟨A, c, rfl, _, _⟩ := hs.form
 have HS0 : Shh (Sl w B (.slice A rho.length c) rho ∧ B ≤ N ∧ KVars w ∧ 0 < N ∧ w.heap.size = N) := ⟨hs, hB, hv, hpos, hN⟩
 have hN0 := Shh.mk hN
 clear hs hB hv hpos hN hokE hl
 generalize rho.length = ln at *
 go_enter Tryd.func52, Tryd.ntmps52
 go_wp2_with (refine wl_zeroV 4 rfl rfl rfl ?_)
 intro N1 w2 hN1 r2 b2
 simp only [Act.put, arr9, hd9, tl9]
 obtain rfl : N = N1 := hN0.out.symm.trans hN1.out.symm
 have HI : Shh (Sl w2 B (.slice A ln c) rho ∧ B ≤ N ∧ KVars w2 ∧ 0 < N ∧ Row w2 N 64 (vc zV) ∧ Below N w w2) := by
  obtain ⟨h1, h2, hv, hp, h4⟩ := HS0.out
  rw [h4] at b2
  exact ⟨h1.below (b2.mono h2), h2, hv.step (h4.symm ▸ b2), hp, r2, b2⟩
 clear r2 b2 hN1 HS0
 go_wp2_with (refine wl_zeroV 5 rfl rfl rfl ?_)
 intro G w3 hG r3 b3
 simp only [Act.put, arr9, hd9, tl9]
 have HJ : Shh (Sl w3 B (.slice A ln c) rho ∧ B ≤ N ∧ KVars w3 ∧ 0 < N ∧ Row w3 N 64 (vc zV) ∧ Row w3 G 64 (vc zV) ∧ Below N w w3 ∧ N < G) := by
  obtain ⟨h1, h2, hv, hp, h4, h5⟩ := HI.out
  have := h4.lt
  exact ⟨h1.below (b3.mono (by omega)), h2, hv.step b3, hp, h4.go b3, r3, h5.trans (b3.mono (by omega)), by rw [hG.out]; exact h4.lt⟩
 clear r3 b3 hG HI
 go_wp2
 go_loopw [7] (fun cc wr => ∃ k : Nat, k ≤ 3 ∧ cc = .int .i64 (k : Int) ∧ (∀ j, j < k → okE j) ∧ Shh (Sl wr B (.slice A ln c) rho ∧ B ≤ N ∧ KVars wr ∧ 0 < N ∧ Row wr N 64 (vc zV) ∧ Row wr G 64 (vc (hfV U zV k)) ∧ Below N w wr ∧ N < G)) (fun cc _ => 3 - (intOf cc).toNat)
 case atStart => exact ⟨0, Nat.zero_le _, rfl, fun j hj => absurd hj (Nat.not_lt_zero j), ⟨by rw [hfV_zero]; exact HJ.out⟩⟩
 case round =>
  clear HJ
  obtain ⟨k, hk, rfl, hokk, HI⟩ := hrel
  by_cases hlt : k < 3
  ·have hlt2 : (k : Int) < 3 := by omega
   obtain ⟨O, hO⟩ : ∃ O, Shh (O = 256 * k) := ⟨_, ⟨rfl⟩⟩
   have HN := Shh.mk (hfV_next U zV k)
   by_cases hok : okE k
   case neg =>
    go_wp2_with (go_at_call 66; refine (HC.out k hlt _ B _ HI.out.1 (by have := HI.out.2.2.2.2.1.lt; have := HI.out.2.1; omega) HI.out.2.2.1).mono ?_)
    rintro e w4 ⟨_, h4⟩
    obtain ⟨rfl, b4⟩ := h4 hok
    have hb4 : Below N w w4 := HI.out.2.2.2.2.2.2.1.trans (b4.mono (Nat.le_of_lt HI.out.2.2.2.2.1.lt))
    go_wp2
    exact ⟨rfl, fun h => absurd (h k hlt) hok, fun _ => ⟨rfl, by rw [hN0.out]; exact hb4⟩⟩
   go_wp2_with (go_at_call 66; refine (HC.out k hlt _ B _ HI.out.1 (by have := HI.out.2.2.2.2.1.lt; have := HI.out.2.1; omega) HI.out.2.2.1).mono ?_)
   rintro e w4 ⟨h4, _⟩
   obtain ⟨rfl, b4⟩ := h4 hok
   have HI2 : Shh (Sl w4 B (.slice A ln c) rho ∧ B ≤ N ∧ KVars w4 ∧ 0 < N ∧ Row w4 N 64 (vc zV) ∧ Row w4 G 64 (vc (hfV U zV k)) ∧ Below N w w4 ∧ N < G) := by
    obtain ⟨h1, h2, hv, hp, h4, h5, h6, h7⟩ := HI.out
    have := h4.lt
    exact ⟨h1.below (b4.mono (by omega)), h2, hv.step b4, hp, h4.go b4, h5.go b4, h6.trans (b4.mono (by omega)), h7⟩
   clear b4 HI
   go_wp2_with (first | refine wl_at 15 rfl (.pointer (some ⟨G, O, none⟩)) rfl (run_atV hlt hO.out rfl rfl rfl) ?_ | refine wl_storeE rfl rfl hlt hO.out rfl rfl rfl HI2.out.2.2.2.2.2.1 ?_)
   intro w3 r3 b3 z3
   rw [HN.out] at r3
   have HI3 : Shh (Sl w3 B (.slice A ln c) rho ∧ B ≤ N ∧ KVars w3 ∧ 0 < N ∧ Row w3 N 64 (vc zV) ∧ Row w3 G 64 (vc (hfV U zV (k + 1))) ∧ Below N w w3 ∧ N < G) := by
    obtain ⟨h1, h2, hv, hp, h4, h5, h6, h7⟩ := HI2.out
    have hb := b3.under (Nat.le_of_lt h5.lt) (Nat.le_refl _)
    exact ⟨h1.below (hb.mono (by omega)), h2, hv.but b3 (by omega), hp, h4.below hb h7, r3, h6.trans (hb.mono (Nat.le_of_lt h7)), h7⟩
   clear r3 b3 z3 HI2
   go_wp2
   go_roundw
   case rel => exact ⟨k + 1, by omega, by go_num, fun j hj => by
    by_cases h : j = k
    ·rw [h]; exact hok
    ·exact hokk j (by omega), HI3⟩
   case measure => simp [intOf]; omega
  ·have HL : Shh (vc (hfV U zV k) = vc U) := ⟨by rw [show k = 3 by omega]; exact hfV_all _ _⟩
   rw [HL.out] at HI
   have hlt2 : ¬ (k : Int) < 3 := by omega
   clear HL
   go_wp2_with (first
    | refine wpList_load_any rfl 64 (.tmp 5) rfl G rfl 64 (vc U) (.array 3 62) HI.out.2.2.2.2.2.1 Tryd.underlying64 rfl (info_vec.trans (size_vec U)) ?_
    | refine wpList_store_any rfl 64 (.tmp 4) (.tmp 17) rfl N rfl (vc U) rfl 64 _ HI.out.2.2.2.2.1 (info_vec.trans (size_vec U)) (by rw [vc_length, vc_length]) (vc_one U) ?_)
   intro w9 hr9 b9 _
   have hb9 := HI.out.2.2.2.2.2.2.1.trans (b9.under (Nat.le_of_lt HI.out.2.2.2.2.1.lt) (Nat.le_refl _))
   go_wp2
   exact ret_row Tryd.results52 rfl rfl hr9 Tryd.underlying64 rfl (info_vec.trans (size_vec U)) ⟨fun _ => ⟨rfl, hb9⟩, fun h => absurd (fun j hj => hokk j (by omega)) h⟩
set_option maxHeartbeats 2000000 in
theorem unpackedK_any (bs : List UInt8) (hl : 1152 ≤ bs.length) (B : Nat) (v : Value) (w : World) (hs : Sl w B v bs) (hB : B ≤ w.heap.size) : Calls Tryd.prog 49 #[v] w (VecIs w (unV bs)) := by
 unfold VecIs vecV
 generalize hN : w.heap.size = N at *
 obtain ⟨U, hU⟩ : ∃ U, Shh (U = unV bs) := ⟨_, ⟨rfl⟩⟩
 have HP : Shh (∀ k : Nat, k < 3 → ∀ W B' u, Sl W B' u bs → Calls Tryd.prog 55 #[.int .i64 12, u, .int .i64 (k : Int)] W (CutIs W B' (pieceB 12 bs k))) := ⟨fun k hk W B' u hs => piece_any 12 k (by decide) hk bs (by omega) B' u W hs⟩
 have HD : Shh (∀ k : Nat, k < 3 → ∀ W B' u, Sl W B' u (pieceB 12 bs k) → B' ≤ W.heap.size → Calls Tryd.prog 74 #[.int .i64 12, u] W (CodeIs W (U k) 0)) := ⟨fun k hk W B' u hs hB => by
  rw [hU.out]
  exact Decode_any 12 (by decide) B' u (pieceB 12 bs k) (pieceB_length 12 bs k (by omega)) W hs hB⟩
 rw [← hU.out]
 obtain ⟨A, c, rfl, _, _⟩ := hs.form
 have HS0 : Shh (Sl w B (.slice A bs.length c) bs ∧ B ≤ N ∧ w.heap.size = N) := ⟨hs, hB, hN⟩
 have hN0 := Shh.mk hN
 clear hs hB hN hl
 generalize bs.length = ln at *
 go_enter Tryd.func49, Tryd.ntmps49
 go_wp2_with (refine wl_zeroV 2 rfl rfl rfl ?_)
 intro N1 w2 hN1 r2 b2
 simp only [Act.put, arr9, hd9, tl9]
 obtain rfl : N = N1 := hN0.out.symm.trans hN1.out.symm
 have HI : Shh (Sl w2 B (.slice A ln c) bs ∧ B ≤ N ∧ Row w2 N 64 (vc zV) ∧ Below N w w2) := by
  obtain ⟨h1, h2, h4⟩ := HS0.out
  rw [h4] at b2
  exact ⟨h1.below (b2.mono h2), h2, r2, b2⟩
 clear r2 b2 hN1 HS0
 go_wp2_with (refine wl_zeroV 3 rfl rfl rfl ?_)
 intro G w3 hG r3 b3
 simp only [Act.put, arr9, hd9, tl9]
 have HJ : Shh (Sl w3 B (.slice A ln c) bs ∧ B ≤ N ∧ Row w3 N 64 (vc zV) ∧ Row w3 G 64 (vc zV) ∧ Below N w w3 ∧ N < G) := by
  obtain ⟨h1, h2, h4, h5⟩ := HI.out
  have := h4.lt
  exact ⟨h1.below (b3.mono (by omega)), h2, h4.go b3, r3, h5.trans (b3.mono (by omega)), by rw [hG.out]; exact h4.lt⟩
 clear r3 b3 hG HI
 go_wp2
 go_loopw [5] (fun cc wr => ∃ k : Nat, k ≤ 3 ∧ cc = .int .i64 (k : Int) ∧ Shh (Sl wr B (.slice A ln c) bs ∧ B ≤ N ∧ Row wr N 64 (vc zV) ∧ Row wr G 64 (vc (hfV U zV k)) ∧ Below N w wr ∧ N < G)) (fun cc _ => 3 - (intOf cc).toNat)
 case atStart => exact ⟨0, Nat.zero_le _, rfl, ⟨by rw [hfV_zero]; exact HJ.out⟩⟩
 case round =>
  clear HJ
  obtain ⟨k, hk, rfl, HI⟩ := hrel
  by_cases hlt : k < 3
  ·have hlt2 : (k : Int) < 3 := by omega
   obtain ⟨O, hO⟩ : ∃ O, Shh (O = 256 * k) := ⟨_, ⟨rfl⟩⟩
   have HN := Shh.mk (hfV_next U zV k)
   go_wp2_with (go_at_call 55; refine (HP.out k hlt _ B _ HI.out.1).mono ?_)
   rintro e w4 ⟨u, rfl, hu, rfl⟩
   have HU := Shh.mk hu
   clear hu
   go_wp2_with (go_at_call 74; refine (HD.out k hlt _ B _ HU.out (by have := HI.out.2.2.1.lt; have := HI.out.2.1; omega)).mono ?_)
   rintro e w5 ⟨rfl, b5⟩
   have HI5 : Shh (Sl w5 B (.slice A ln c) bs ∧ B ≤ N ∧ Row w5 N 64 (vc zV) ∧ Row w5 G 64 (vc (hfV U zV k)) ∧ Below N w w5 ∧ N < G) := by
    obtain ⟨h1, h2, h4, h5, h6, h7⟩ := HI.out
    have := h4.lt
    exact ⟨h1.below (b5.mono (by omega)), h2, h4.go b5, h5.go b5, h6.trans (b5.mono (by omega)), h7⟩
   clear b5 HI HU
   go_wp2_with (go_at_call 73; refine (sureP_ok (U k) w5).mono ?_)
   rintro e w4 ⟨rfl, b4⟩
   have HI2 : Shh (Sl w4 B (.slice A ln c) bs ∧ B ≤ N ∧ Row w4 N 64 (vc zV) ∧ Row w4 G 64 (vc (hfV U zV k)) ∧ Below N w w4 ∧ N < G) := by
    obtain ⟨h1, h2, h4, h5, h6, h7⟩ := HI5.out
    have := h4.lt
    exact ⟨h1.below (b4.mono (by omega)), h2, h4.go b4, h5.go b4, h6.trans (b4.mono (by omega)), h7⟩
   clear b4 HI5
   go_wp2_with (first | refine wl_at 16 rfl (.pointer (some ⟨G, O, none⟩)) rfl (run_atV hlt hO.out rfl rfl rfl) ?_ | refine wl_storeE rfl rfl hlt hO.out rfl rfl rfl HI2.out.2.2.2.1 ?_)
   intro w3 r3 b3 z3
   rw [HN.out] at r3
   have HI3 : Shh (Sl w3 B (.slice A ln c) bs ∧ B ≤ N ∧ Row w3 N 64 (vc zV) ∧ Row w3 G 64 (vc (hfV U zV (k + 1))) ∧ Below N w w3 ∧ N < G) := by
    obtain ⟨h1, h2, h4, h5, h6, h7⟩ := HI2.out
    have hb := b3.under (Nat.le_of_lt h5.lt) (Nat.le_refl _)
    exact ⟨h1.below (hb.mono (by omega)), h2, h4.below hb h7, r3, h6.trans (hb.mono (Nat.le_of_lt h7)), h7⟩
   clear r3 b3 z3 HI2
   go_wp2
   go_roundw
   case rel => exact ⟨k + 1, by omega, by go_num, HI3⟩
   case measure => simp [intOf]; omega
  ·have HL : Shh (vc (hfV U zV k) = vc U) := ⟨by rw [show k = 3 by omega]; exact hfV_all _ _⟩
   rw [HL.out] at HI
   have hlt2 : ¬ (k : Int) < 3 := by omega
   clear HL
   go_wp2_with (first
    | refine wpList_load_any rfl 64 (.tmp 3) rfl G rfl 64 (vc U) (.array 3 62) HI.out.2.2.2.1 Tryd.underlying64 rfl (info_vec.trans (size_vec U)) ?_
    | refine wpList_store_any rfl 64 (.tmp 2) (.tmp 18) rfl N rfl (vc U) rfl 64 _ HI.out.2.2.1 (info_vec.trans (size_vec U)) (by rw [vc_length, vc_length]) (vc_one U) ?_)
   intro w9 hr9 b9 _
   have hb9 := HI.out.2.2.2.2.1.trans (b9.under (Nat.le_of_lt HI.out.2.2.1.lt) (Nat.le_refl _))
   go_wp2
   exact ret_row Tryd.results49 rfl rfl hr9 Tryd.underlying64 rfl (info_vec.trans (size_vec U)) ⟨rfl, hb9⟩
end Go.Proofs.YtbjpbeplpljieaaDoor

/-
 THE PRODUCT of two vectors of transforms; vectors as bytes.
-/
namespace Go.Proofs.YtbjpbeplpljieaaDoor
open Go.RowKit
set_option maxRecDepth 100000
def prN (A B : Nat → Nat → Nat) : Nat → Nat → Nat
 | 0 => fun _ => 0
 | k + 1 => addN (prN A B k) (pairN (A k) (B k))
theorem prN_lt (A B : Nat → Nat → Nat) (k i : Nat) : prN A B k i < 65536 := by
 cases k with
 | zero => show 0 < 65536; decide
 | succ k => exact rd_16 ((prN A B k i : Int) + (pairN (A k) (B k) i : Int))
set_option maxHeartbeats 4000000 in
theorem kproduct_any (A B : Nat → Nat → Nat) (hA : ∀ k : Nat, k < 3 → ∀ i, i < 256 → A k i < 65536) (hB : ∀ k : Nat, k < 3 → ∀ i, i < 256 → B k i < 65536) (w : World) : Calls Tryd.prog 43 #[vecV A, vecV B] w (PolyIs w (prN A B 3)) := by
 unfold PolyIs polyV vecV
 have HMA : Shh (∀ k : Nat, k < 3 → ∃ mk : Nat → Nat, (∀ W, Calls Tryd.prog 65 #[.agg (pc (A k)).toArray, .agg (pc (B k)).toArray] W (PolyIs W mk)) ∧ ∀ W, Calls Tryd.prog 42 #[.agg (pc (prN A B k)).toArray, .agg (pc mk).toArray] W (PolyIs W (prN A B (k + 1)))) := ⟨fun k hk => ⟨pairN (A k) (B k), fun W => MulNtt_any _ _ (hA k hk) (hB k hk) W, fun W => Add_any _ _ (fun i _ => prN_lt A B k i) (fun i _ => rd_16 _) W⟩⟩
 have HP0 : Shh (pc (prN A B 0) = pc fun _ => 0) := ⟨rfl⟩
 clear hA hB
 generalize prN A B = S at *
 generalize hN : w.heap.size = N at *
 obtain ⟨W0, hW0⟩ : ∃ W0, W0 = (w.alloc (.cells (vc A).toArray 64)).alloc (.cells (vc B).toArray 64) := ⟨_, rfl⟩
 have HL0 : Shh (Row W0 N 64 (vc A) ∧ Row W0 (N + 1) 64 (vc B) ∧ Below N w W0 ∧ W0.heap.size = N + 2) := by
  rw [hW0]
  refine ⟨(Row.new_ hN.symm rfl).alloc _, Row.new_ (by rw [asz, hN]) rfl, ?_, by rw [asz, asz, hN]⟩
  rw [← hN]
  exact Below.chain (bel1 _ _) (bel1 _ _)
 go_enter Tryd.func43, Tryd.ntmps43
 go_wp2_with (refine wl_allocS 4 rfl rfl rfl ?_)
 intro G0 w2 hG0 r2 b2
 rw [← hW0] at hG0 b2
 clear hW0 hN
 simp only [Act.put, arr9, hd9, tl9]
 have HI : Shh (Row w2 N 64 (vc A) ∧ Row w2 (N + 1) 64 (vc B) ∧ Row w2 G0 62 (pc fun _ => 0) ∧ Below N w w2 ∧ N + 1 < G0) := by
  obtain ⟨h1, h2, h3, h4⟩ := HL0.out
  have := hG0.out
  exact ⟨h1.go b2, h2.go b2, r2, h3.trans (b2.mono (by omega)), by omega⟩
 clear r2 b2 hG0 HL0
 go_wp2_with (refine wl_allocS 5 rfl rfl rfl ?_)
 intro G1 w3 hG1 r3 b3
 simp only [Act.put, arr9, hd9, tl9]
 have HJ : Shh (Row w3 N 64 (vc A) ∧ Row w3 (N + 1) 64 (vc B) ∧ Row w3 G0 62 (pc fun _ => 0) ∧ Row w3 G1 62 (pc fun _ => 0) ∧ Below N w w3 ∧ N + 1 < G0 ∧ G0 < G1) := by
  obtain ⟨h1, h2, h3, h4, h5⟩ := HI.out
  have := hG1.out
  have := h3.lt
  exact ⟨h1.go b3, h2.go b3, h3.go b3, r3, h4.trans (b3.mono (by omega)), h5, by omega⟩
 clear r3 b3 hG1 HI
 go_wp2
 go_loopw [7] (fun cc wr => ∃ k : Nat, k ≤ 3 ∧ cc = .int .i64 (k : Int) ∧ Shh (Row wr N 64 (vc A) ∧ Row wr (N + 1) 64 (vc B) ∧ Row wr G0 62 (pc fun _ => 0) ∧ Row wr G1 62 (pc (S k)) ∧ Below N w wr ∧ N + 1 < G0 ∧ G0 < G1)) (fun cc _ => 3 - (intOf cc).toNat)
 case atStart => exact ⟨0, Nat.zero_le _, rfl, ⟨by rw [HP0.out]; exact HJ.out⟩⟩
 case round =>
  clear HJ HP0
  obtain ⟨k, hk, rfl, HI⟩ := hrel
  by_cases hlt : k < 3
  ·have hlt2 : (k : Int) < 3 := by omega
   obtain ⟨O, hO⟩ : ∃ O, Shh (O = 256 * k) := ⟨_, ⟨rfl⟩⟩
   obtain ⟨mk, hm1, hm2⟩ := HMA.out k hlt
   have HM := Shh.mk hm1
   have HA := Shh.mk hm2
   have HG : Shh (N + 1 < G0 ∧ G0 < G1) := ⟨HI.out.2.2.2.2.2⟩
   clear hm1 hm2
   go_wp2
   refine wp_region_held_drew (S := fun w' => Row w' N 64 (vc A) ∧ Row w' (N + 1) 64 (vc B)) (by kernel_rfl) ⟨HI.out.1.drew, HI.out.2.1.drew⟩ (fun hS => ?_)
   clear hS
   obtain ⟨U, hU⟩ : ∃ V, V = World.drew wr := ⟨_, rfl⟩
   rw [← hU]
   have q0 : Row U N 64 (vc A) := by rw [hU]; exact HI.out.1.drew
   have q1 : Row U (N + 1) 64 (vc B) := by rw [hU]; exact HI.out.2.1.drew
   have q2 : Row U G0 62 (pc fun _ => 0) := by rw [hU]; exact HI.out.2.2.1.drew
   have q3 : Row U G1 62 (pc (S k)) := by rw [hU]; exact HI.out.2.2.2.1.drew
   have bN : Below N w U := by rw [hU]; exact HI.out.2.2.2.2.1.drew
   clear HI hU
   refine hdv0 1 11 (.int .i64 (k : Int)) (by rfl) (⟨q0, q1⟩) ?_
   refine hdv 2 12 (.pointer (some ⟨N, O, none⟩)) (by rfl) (fun w hS => run_atV hlt hO.out rfl rfl rfl) (⟨q0, q1⟩) ?_
   refine hdv0 4 14 (.int .i64 (k : Int)) (by rfl) (⟨q0, q1⟩) ?_
   refine hdv 5 15 (.pointer (some ⟨N + 1, O, none⟩)) (by rfl) (fun w hS => run_atV hlt hO.out rfl rfl rfl) (⟨q0, q1⟩) ?_
   refine held_load 3 62 (.tmp 12) (some 13) (by kernel_rfl) (by rfl) (by kernel_rfl) N O (by kernel_rfl) (pc (A k)) _ (fun w h => by have hm := h.1.mid O 256; rw [hO.out, vc_piece A hlt, ← hO.out] at hm; exact hm) Tryd.underlying62 rfl (info_poly.trans (size_poly _)) (fun _ _ _ _ h => h) (⟨q0, q1⟩) ?_
   simp only [Act.put, arr9, hd9, tl9]
   refine held_load 6 62 (.tmp 15) (some 16) (by kernel_rfl) (by rfl) (by kernel_rfl) (N + 1) O (by kernel_rfl) (pc (B k)) _ (fun w h => by have hm := h.2.mid O 256; rw [hO.out, vc_piece B hlt, ← hO.out] at hm; exact hm) Tryd.underlying62 rfl (info_poly.trans (size_poly _)) (fun _ _ _ _ h => h) (⟨q0, q1⟩) ?_
   simp only [Act.put, arr9, hd9, tl9]
   refine held_two 0 7 (by kernel_rfl) ?_ ?_
   ·refine step_value 0 _ _ (some 10) (.agg (pc (S k)).toArray) U (by rfl) (by kernel_rfl) (run_loadRow13 (g := G1) (by kernel_rfl) q3 Tryd.underlying62 rfl (info_poly.trans (size_poly _))) (⟨q0, q1⟩) ?_
    simp only [Act.put, arr9, hd9, tl9]
    refine held_one 7 (by kernel_rfl) ?_
    refine step_call 7 _ _ (some 17) 65 #[.agg (pc (A k)).toArray, .agg (pc (B k)).toArray] (by rfl) (by kernel_rfl) (by first | kernel_rfl | go_simp) ?_
    refine (HM.out U).mono ?_
    rintro e Y2 ⟨rfl, b1⟩
    have bx : Below U.heap.size U Y2 := b1
    clear b1
    have b_U := bx
    have m_Y2 : U.heap.size ≤ Y2.heap.size := bx.size
    clear bx
    refine ⟨_, rfl, ⟨(q0.go b_U), (q1.go b_U)⟩, ?_⟩
    simp only [Act.put, arr9, hd9, tl9]
    refine held_one 8 (by kernel_rfl) ?_
    refine step_call 8 _ _ (some 18) 42 #[.agg (pc (S k)).toArray, .agg (pc mk).toArray] (by rfl) (by kernel_rfl) (by first | kernel_rfl | go_simp) ?_
    refine (HA.out Y2).mono ?_
    rintro e Y3 ⟨rfl, b1⟩
    have bx : Below Y2.heap.size Y2 Y3 := b1
    clear b1
    replace b_U := Below.chain b_U bx
    have b_Y2 := bx
    have m_Y3 : Y2.heap.size ≤ Y3.heap.size := bx.size
    clear bx
    refine ⟨_, rfl, ⟨(q0.go b_U), (q1.go b_U)⟩, ?_⟩
    simp only [Act.put, arr9, hd9, tl9]
    refine held_one 9 (by kernel_rfl) ?_
    refine step_storeRow 9 62 (.tmp 5) (.tmp 18) (by rfl) (by kernel_rfl) G1 rfl (pc (S (k + 1))) rfl 62 (pc (S k)) (q3.go b_U) (info_poly.trans (size_poly _)) (by rw [pc_length, pc_length]) (pc_one _) ?_
    intro Z r5 bt zt
    have HZ : Shh (Row Z N 64 (vc A) ∧ Row Z (N + 1) 64 (vc B) ∧ Row Z G0 62 (pc fun _ => 0) ∧ Row Z G1 62 (pc (S (k + 1))) ∧ Below N w Z ∧ N + 1 < G0 ∧ G0 < G1) := by
     have h0 := (q0.go b_U)
     have h1 := (q1.go b_U)
     have h2 := (q2.go b_U)
     have hg := HG.out
     exact ⟨bt.row h0 h0.lt (by omega), bt.row h1 h1.lt (by omega), bt.row h2 h2.lt (by omega), r5, (bN.trans (b_U.mono (by have := q0.lt; omega))).trans (bt.under (Nat.le_of_lt h0.lt) (by omega)), hg.1, hg.2⟩
    refine ⟨⟨HZ.out.1, HZ.out.2.1⟩, ?_⟩
    refine wpAnyH_done (by kernel_rfl) ?_ _
    clear r5 bt zt b_U bN q0 q1 q2 q3 HM HA
    go_wp2
    go_roundw
    case rel => exact ⟨k + 1, by omega, by go_num, HZ⟩
    case measure => simp [intOf]; omega
   ·refine step_call 7 _ _ (some 17) 65 #[.agg (pc (A k)).toArray, .agg (pc (B k)).toArray] (by rfl) (by kernel_rfl) (by first | kernel_rfl | go_simp) ?_
    refine (HM.out U).mono ?_
    rintro e Y1 ⟨rfl, b1⟩
    have bx : Below U.heap.size U Y1 := b1
    clear b1
    have b_U := bx
    have m_Y1 : U.heap.size ≤ Y1.heap.size := bx.size
    clear bx
    refine ⟨_, rfl, ⟨(q0.go b_U), (q1.go b_U)⟩, ?_⟩
    simp only [Act.put, arr9, hd9, tl9]
    refine held_one 0 (by kernel_rfl) ?_
    refine step_value 0 _ _ (some 10) (.agg (pc (S k)).toArray) Y1 (by rfl) (by kernel_rfl) (run_loadRow13 (g := G1) (by kernel_rfl) (q3.go b_U) Tryd.underlying62 rfl (info_poly.trans (size_poly _))) (⟨(q0.go b_U), (q1.go b_U)⟩) ?_
    simp only [Act.put, arr9, hd9, tl9]
    refine held_one 8 (by kernel_rfl) ?_
    refine step_call 8 _ _ (some 18) 42 #[.agg (pc (S k)).toArray, .agg (pc mk).toArray] (by rfl) (by kernel_rfl) (by first | kernel_rfl | go_simp) ?_
    refine (HA.out Y1).mono ?_
    rintro e Y3 ⟨rfl, b1⟩
    have bx : Below Y1.heap.size Y1 Y3 := b1
    clear b1
    replace b_U := Below.chain b_U bx
    have b_Y1 := bx
    have m_Y3 : Y1.heap.size ≤ Y3.heap.size := bx.size
    clear bx
    refine ⟨_, rfl, ⟨(q0.go b_U), (q1.go b_U)⟩, ?_⟩
    simp only [Act.put, arr9, hd9, tl9]
    refine held_one 9 (by kernel_rfl) ?_
    refine step_storeRow 9 62 (.tmp 5) (.tmp 18) (by rfl) (by kernel_rfl) G1 rfl (pc (S (k + 1))) rfl 62 (pc (S k)) (q3.go b_U) (info_poly.trans (size_poly _)) (by rw [pc_length, pc_length]) (pc_one _) ?_
    intro Z r5 bt zt
    have HZ : Shh (Row Z N 64 (vc A) ∧ Row Z (N + 1) 64 (vc B) ∧ Row Z G0 62 (pc fun _ => 0) ∧ Row Z G1 62 (pc (S (k + 1))) ∧ Below N w Z ∧ N + 1 < G0 ∧ G0 < G1) := by
     have h0 := (q0.go b_U)
     have h1 := (q1.go b_U)
     have h2 := (q2.go b_U)
     have hg := HG.out
     exact ⟨bt.row h0 h0.lt (by omega), bt.row h1 h1.lt (by omega), bt.row h2 h2.lt (by omega), r5, (bN.trans (b_U.mono (by have := q0.lt; omega))).trans (bt.under (Nat.le_of_lt h0.lt) (by omega)), hg.1, hg.2⟩
    refine ⟨⟨HZ.out.1, HZ.out.2.1⟩, ?_⟩
    refine wpAnyH_done (by kernel_rfl) ?_ _
    clear r5 bt zt b_U bN q0 q1 q2 q3 HM HA
    go_wp2
    go_roundw
    case rel => exact ⟨k + 1, by omega, by go_num, HZ⟩
    case measure => simp [intOf]; omega
  ·have HL : Shh (k = 3) := ⟨by omega⟩
   rw [HL.out] at HI
   have hlt2 : ¬ (k : Int) < 3 := by omega
   clear HL HMA
   go_wp2_with (first
    | refine wpList_load_any rfl 62 (.tmp 5) rfl G1 rfl 62 (pc (S 3)) (.array 256 39) HI.out.2.2.2.1 Tryd.underlying62 rfl (info_poly.trans (size_poly _)) ?_
    | refine wpList_store_any rfl 62 (.tmp 4) (.tmp 20) rfl G0 rfl (pc (S 3)) rfl 62 _ HI.out.2.2.1 (info_poly.trans (size_poly _)) (by rw [pc_length, pc_length]) (pc_one _) ?_)
   intro w9 hr9 b9 _
   have hb9 := HI.out.2.2.2.2.1.trans (b9.under (Nat.le_of_lt HI.out.1.lt) (by have := HI.out.2.2.2.2.2.1; omega))
   go_wp2
   exact ret_row Tryd.results43 rfl rfl hr9 Tryd.underlying62 rfl (info_poly.trans (size_poly _)) ⟨rfl, hb9⟩
end Go.Proofs.YtbjpbeplpljieaaDoor

/-
 VECTORS AS BYTES: packed, canonical.
-/
namespace Go.Proofs.YtbjpbeplpljieaaDoor
open Go.RowKit
set_option maxRecDepth 100000
def pkN (V : Nat → Nat → Nat) : Nat → List UInt8
 | 0 => []
 | k + 1 => pkN V k ++ encB 12 (V k)
theorem pkN_length (V : Nat → Nat → Nat) : ∀ k, (pkN V k).length = 384 * k
 | 0 => rfl
 | k + 1 => by
  show (pkN V k ++ encB 12 (V k)).length = _
  rw [List.length_append, pkN_length V k, encB_length]
  omega
set_option maxHeartbeats 2000000 in
theorem kpacked_any (V : Nat → Nat → Nat) (hV : ∀ k : Nat, k < 3 → ∀ i, i < 256 → V k i < 65536) (w : World) : Calls Tryd.prog 45 #[vecV V] w (OwnIs w (pkN V 3)) := by
 obtain ⟨i0, hi, hz0, hz1, hz2⟩ := info_parts info_u8
 unfold OwnIs vecV
 have HC : Shh (∀ k : Nat, k < 3 → ∀ W, Calls Tryd.prog 67 #[.int .i64 12, .agg (pc (V k)).toArray] W (PutIs W 0 (encB 12 (V k)))) := ⟨fun k hk W => Encode_any 12 (by decide) (V k) (hV k hk) W⟩
 have HL : Shh (∀ k, (pkN V k).length = 384 * k ∧ (encB 12 (V k)).length = 384 ∧ pkN V k ++ encB 12 (V k) = pkN V (k + 1)) := ⟨fun k => ⟨pkN_length V k, encB_length 12 (V k), rfl⟩⟩
 clear hV
 obtain ⟨N, hN⟩ : ∃ N, Shh (N = w.heap.size) := ⟨_, ⟨rfl⟩⟩
 have HW0 : Shh (Row (w.alloc (.cells (vc V).toArray 64)) N 64 (vc V) ∧ Below N w (w.alloc (.cells (vc V).toArray 64)) ∧ (w.alloc (.cells (vc V).toArray 64)).heap.size = N + 1) := ⟨Row.new_ hN.out rfl, by rw [hN.out]; exact bel1 _ _, by rw [asz, hN.out]⟩
 obtain ⟨W0, hW0⟩ : ∃ W0, W0 = w.alloc (.cells (vc V).toArray 64) := ⟨_, rfl⟩
 rw [← hW0] at HW0
 go_enter Tryd.func45, Tryd.ntmps45
 go_wp2_with fail
 rw [← hW0]
 rw [show w.heap.size = N from hN.out.symm]
 clear hW0
 go_loopw [3, 5] (fun b cc wr => ∃ (k : Nat) (vb : Value), k ≤ 3 ∧ vb = b ∧ cc = .int .i64 (k : Int) ∧ Shh (wr.ownsRow (N + 1) 5 1 b (pkN V k).length (Lib.byteCells (pkN V k)) ∧ Row wr N 64 (vc V) ∧ Below N w wr ∧ N + 1 ≤ wr.heap.size)) (fun _ cc _ => 3 - (intOf cc).toNat)
 case atStart => exact ⟨0, _, Nat.zero_le _, rfl, rfl, ⟨World.ownsRow_nil _ _ _ _, HW0.out.1, HW0.out.2.1, by rw [HW0.out.2.2]; exact Nat.le_refl _⟩⟩
 case round =>
  clear HW0
  obtain ⟨k, b, hk, hvb, rfl, HI⟩ := hrel
  subst hvb
  by_cases hlt : k < 3
  ·have hlt2 : (k : Int) < 3 := by omega
   obtain ⟨O, hO⟩ : ∃ O, Shh (O = 256 * k) := ⟨_, ⟨rfl⟩⟩
   go_wp2_with (first | refine wl_at 10 rfl (.pointer (some ⟨N, O, none⟩)) rfl (run_atV hlt hO.out rfl rfl rfl) ?_ | refine wl_loadE rfl rfl hlt hO.out rfl rfl HI.out.2.1 ?_ | (go_at_call 67; refine (HC.out k hlt _).mono ?_))
   rintro e w4 ⟨u, rfl, hu, b4⟩
   have HI2 : Shh (w4.ownsRow (N + 1) 5 1 b (pkN V k).length (Lib.byteCells (pkN V k)) ∧ Row w4 N 64 (vc V) ∧ Below N w w4 ∧ N + 1 ≤ w4.heap.size ∧ Sl w4 w4.heap.size u (encB 12 (V k))) := by
    obtain ⟨h1, h2, h3, h4⟩ := HI.out
    have := b4.size
    exact ⟨own_below h1 b4, h2.go b4, h3.trans (b4.mono (by omega)), by omega, Sl.of_own hu⟩
   clear hu b4 HI
   go_wp2_with (go_at_call 31; refine (sureB_ok _ w4).mono ?_)
   rintro e w5 ⟨rfl, rfl⟩
   go_wp2_with (at_builtin; refine wp_appendSl _ 23 5 i0 Tryd.underlying23 hi hz0 hz1 hz2 rfl _ _ rfl HI2.out.1 HI2.out.2.2.2.2 rfl rfl (by have := (HL.out k).1; have := (HL.out k).2.1; omega) HI2.out.2.2.2.1 ?_)
   intro v' w6 ho hg hb6
   have HI3 : Shh (w6.ownsRow (N + 1) 5 1 v' (pkN V (k + 1)).length (Lib.byteCells (pkN V (k + 1))) ∧ Row w6 N 64 (vc V) ∧ Below N w w6 ∧ N + 1 ≤ w6.heap.size) := by
    obtain ⟨h1, h2, h3, h4, _⟩ := HI2.out
    have hb := hb6 (N + 1) (Nat.le_refl _)
    have := hb.size
    rw [(HL.out k).2.2] at ho
    exact ⟨own_len ho (by have h1 := (HL.out k).1; have h2 := (HL.out (k + 1)).1; have h3 := (HL.out k).2.1; omega), h2.below hb (Nat.lt_succ_self _), h3.trans (hb.mono (Nat.le_succ _)), by omega⟩
   clear ho hg hb6 HI2
   go_wp2
   go_roundw
   case rel => exact ⟨k + 1, _, by omega, rfl, by go_num, HI3⟩
   case measure => simp [intOf]; omega
  ·have HK : Shh (k = 3) := ⟨by omega⟩
   rw [HK.out] at HI
   have hlt2 : ¬ (k : Int) < 3 := by omega
   clear HK HC
   go_wp2
   go_ret
   exact ⟨_, rfl, kown_mono HI.out.1 (by rw [hN.out]; omega), by rw [← hN.out]; exact HI.out.2.2.1⟩
/-- are the first k pieces what a polynomial is encoded to? -/
def canK (bs : List UInt8) : Nat → Bool
 | 0 => true
 | k + 1 => canK bs k && canonB (pieceB 12 bs k)
theorem canK_false (bs : List UInt8) (j : Nat) (h : canonB (pieceB 12 bs j) = false) : ∀ k, j < k → canK bs k = false
 | 0, hj => absurd hj (Nat.not_lt_zero j)
 | k + 1, hj => by
  unfold canK
  by_cases e : j = k
  ·rw [← e, h, Bool.and_false]
  ·rw [canK_false bs j h k (by omega), Bool.false_and]
set_option maxHeartbeats 2000000 in
theorem canonical_any (bs : List UInt8) (hl : 1152 ≤ bs.length) (B : Nat) (v : Value) (w : World) (hs : Sl w B v bs) (hB : B ≤ w.heap.size) : Calls Tryd.prog 48 #[v] w (BoolIs w (canK bs 3)) := by
 unfold BoolIs
 have HP : Shh (∀ k : Nat, k < 3 → ∀ W B' u, Sl W B' u bs → Calls Tryd.prog 55 #[.int .i64 12, u, .int .i64 (k : Int)] W (CutIs W B' (pieceB 12 bs k))) := ⟨fun k hk W B' u hs => piece_any 12 k (by decide) hk bs (by omega) B' u W hs⟩
 have HD : Shh (∀ k : Nat, ∀ W B' u, Sl W B' u (pieceB 12 bs k) → B' ≤ W.heap.size → Calls Tryd.prog 72 #[u] W (BoolIs W (canonB (pieceB 12 bs k)))) := ⟨fun k W B' u hs hB => Canon_any B' u (pieceB 12 bs k) W hs hB⟩
 obtain ⟨A, c, rfl, _, _⟩ := hs.form
 have HK : Shh ((∀ k, canonB (pieceB 12 bs k) = true → canK bs k = true → canK bs (k + 1) = true) ∧ (∀ k, k < 3 → canonB (pieceB 12 bs k) = false → canK bs 3 = false) ∧ canK bs 0 = true) := ⟨fun k h1 h2 => by unfold canK; rw [h1, h2]; rfl, fun k hk h => canK_false bs k h 3 hk, rfl⟩
 have HS0 : Shh (Sl w B (.slice A bs.length c) bs ∧ B ≤ w.heap.size ∧ Below w.heap.size w w) := ⟨hs, hB, Below.refl _ _⟩
 clear hs hB hl
 generalize canK bs = K at *
 go_enter Tryd.func48, Tryd.ntmps48
 go_wp2_with fail
 go_loopw [4] (fun cc wr => ∃ k : Nat, k ≤ 3 ∧ cc = .int .i64 (k : Int) ∧ K k = true ∧ Shh (Sl wr B (.slice A bs.length c) bs ∧ B ≤ wr.heap.size ∧ Below w.heap.size w wr)) (fun cc _ => 3 - (intOf cc).toNat)
 case atStart => exact ⟨0, Nat.zero_le _, rfl, HK.out.2.2, HS0⟩
 case round =>
  clear HS0
  obtain ⟨k, hk, rfl, hKk, HI⟩ := hrel
  by_cases hlt : k < 3
  ·have hlt2 : (k : Int) < 3 := by omega
   go_wp2_with (go_at_call 55; refine (HP.out k hlt _ B _ HI.out.1).mono ?_)
   rintro e w4 ⟨u, rfl, hu, rfl⟩
   have HU := Shh.mk hu
   clear hu
   obtain ⟨r, hr⟩ : ∃ r, r = canonB (pieceB 12 bs k) := ⟨_, rfl⟩
   go_wp2_with (go_at_call 72; refine (HD.out k _ B _ HU.out HI.out.2.1).mono ?_)
   rintro e w5 ⟨rfl, b5⟩
   rw [← hr]
   have HI5 : Shh (Sl w5 B (.slice A bs.length c) bs ∧ B ≤ w5.heap.size ∧ Below w.heap.size w w5) := by
    obtain ⟨h1, h2, h3⟩ := HI.out
    have := b5.size
    exact ⟨h1.below (b5.mono h2), by omega, Below.chain h3 b5⟩
   clear b5 HI HU
   cases r with
   | true =>
    have hK1 := HK.out.1 k hr.symm hKk
    clear hr
    go_wp2
    go_roundw
    case rel => exact ⟨k + 1, by omega, by go_num, hK1, HI5⟩
    case measure => simp [intOf]; omega
   | false =>
    have HKf := Shh.mk (HK.out.2.1 k hlt hr.symm)
    clear hr
    go_wp2
    go_ret
    exact ⟨by rw [HKf.out]; rfl, HI5.out.2.2⟩
  ·have HK3 : Shh (K 3 = true) := ⟨by rw [show 3 = k by omega]; exact hKk⟩
   have hlt2 : ¬ (k : Int) < 3 := by omega
   clear hKk
   go_wp2
   go_ret
   exact ⟨by rw [HK3.out]; rfl, HI.out.2.2⟩
end Go.Proofs.YtbjpbeplpljieaaDoor
