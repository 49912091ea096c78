import Derived.Test.YtbjpbeplpljieaaDoorZG
/-
 ARRAYS OF BYTES in memory; derived.
-/
namespace Go.Proofs.YtbjpbeplpljieaaDoor
open Go.RowKit
set_option maxRecDepth 100000
def z32 : List UInt8 := List.replicate 32 0
def z64 : List UInt8 := List.replicate 64 0
theorem z32_length : z32.length = 32 := rfl
theorem z64_length : z64.length = 64 := rfl
def arrV (m : List UInt8) : Value := .agg (Lib.byteCells m).toArray
theorem zero_a32 (W : World) : (zeroValue 22).run Tryd.prog W = .ok (.agg (Lib.byteCells z32).toArray) W := by kernel_rfl
theorem zero_a64 (W : World) : (zeroValue 59).run Tryd.prog W = .ok (.agg (Lib.byteCells z64).toArray) W := by kernel_rfl
theorem bc_len {m : List UInt8} {n : Nat} (h : m.length = n) : some n = some (Lib.byteCells m).length := by rw [Lib.byteCells_length, h]
theorem size_a32 {m : List UInt8} (h : m.length = 32) : (Tryd.prog.info? 22).map (·.size) = some (Lib.byteCells m).length := info_b32.trans (bc_len h)
theorem size_a64 {m : List UInt8} (h : m.length = 64) : (Tryd.prog.info? 59).map (·.size) = some (Lib.byteCells m).length := info_b64.trans (bc_len h)
section
variable {ops : Array Oper} {rest : List Oper} {o o1 o2 : Oper} {a : Act} {w : World} {Q : Exit → Act → World → Prop} {x y : Operand} {op : Oper}
theorem wl_alloc32 (hgd : o.guard = none) (ho : o.op = .alloc 22) (h : wpList Tryd.prog ops Q rest (a.put o.dst (.pointer (some ⟨w.heap.size, 0, none⟩))) (w.alloc (.cells (Lib.byteCells z32).toArray 22))) : wpList Tryd.prog ops Q (o :: rest) a w := by
 refine wl_valueW (.pointer (some ⟨w.heap.size, 0, none⟩)) (w.alloc (.cells (Lib.byteCells z32).toArray 22)) hgd ?_ h
 have hz := zero_a32 w
 unfold execOp
 simp only [ho]
 generalize Lib.byteCells z32 = z at *
 go_simp
theorem run_alloc32 (ho : op.op = .alloc 22) : (execOp a.eval op).run Tryd.prog w = .ok (.value (.pointer (some ⟨w.heap.size, 0, none⟩))) (w.alloc (.cells (Lib.byteCells z32).toArray 22)) := by
 have hz := zero_a32 w
 unfold execOp
 simp only [ho]
 generalize Lib.byteCells z32 = z at *
 go_simp
/-- a new array of zeros -/
theorem wl_zero32 (d : Nat) (hg1 : o1.guard = none) (hd : o1.dst = some d) (h1 : o1.op = .alloc 22)
 (h : ∀ g w2, Shh (g = w.heap.size) → Row w2 g 22 (Lib.byteCells z32) → Below w.heap.size w w2 → wpList Tryd.prog ops Q rest (a.put (some d) (.pointer (some ⟨g, 0, none⟩))) w2) : wpList Tryd.prog ops Q (o1 :: rest) a w := by
 refine wl_alloc32 hg1 h1 ?_
 rw [hd]
 exact h _ _ ⟨rfl⟩ (Row.new_ rfl rfl) (bel1 w _)
/-- a new array, filled -/
theorem wl_new32 (d : Nat) (m : List UInt8) (hm : m.length = 32) (hg1 : o1.guard = none) (hg2 : o2.guard = none) (hd : o1.dst = some d) (hd2 : o2.dst = none) (h1 : o1.op = .alloc 22) (h2 : o2.op = .store 22 (.tmp d) y)
 (hx : (a.put (some d) (.pointer (some ⟨w.heap.size, 0, none⟩))).eval (.tmp d) = .pointer (some ⟨w.heap.size, 0, none⟩)) (hy : (a.put (some d) (.pointer (some ⟨w.heap.size, 0, none⟩))).eval y = .agg (Lib.byteCells m).toArray)
 (h : ∀ g w2, Shh (g = w.heap.size) → Row w2 g 22 (Lib.byteCells m) → Below w.heap.size w w2 → wpList Tryd.prog ops Q rest (a.put (some d) (.pointer (some ⟨g, 0, none⟩))) w2) : wpList Tryd.prog ops Q (o1 :: o2 :: rest) a w := by
 refine wl_alloc32 hg1 h1 ?_
 rw [hd]
 refine wpList_store_any hg2 22 (.tmp d) y h2 w.heap.size hx (Lib.byteCells m) hy 22 (Lib.byteCells z32) (Row.new_ rfl rfl) (size_a32 hm) (by rw [Lib.byteCells_length, Lib.byteCells_length, hm]; rfl) (cell_oneCell m) ?_
 intro w2 r b z
 rw [hd2]
 exact h _ w2 ⟨rfl⟩ r ((bel1 w _).trans (b.under (by rw [asz]; omega) (Nat.le_refl _)))
theorem wl_alloc64 (hgd : o.guard = none) (ho : o.op = .alloc 59) (h : wpList Tryd.prog ops Q rest (a.put o.dst (.pointer (some ⟨w.heap.size, 0, none⟩))) (w.alloc (.cells (Lib.byteCells z64).toArray 59))) : wpList Tryd.prog ops Q (o :: rest) a w := by
 refine wl_valueW (.pointer (some ⟨w.heap.size, 0, none⟩)) (w.alloc (.cells (Lib.byteCells z64).toArray 59)) hgd ?_ h
 have hz := zero_a64 w
 unfold execOp
 simp only [ho]
 generalize Lib.byteCells z64 = z at *
 go_simp
theorem run_alloc64 (ho : op.op = .alloc 59) : (execOp a.eval op).run Tryd.prog w = .ok (.value (.pointer (some ⟨w.heap.size, 0, none⟩))) (w.alloc (.cells (Lib.byteCells z64).toArray 59)) := by
 have hz := zero_a64 w
 unfold execOp
 simp only [ho]
 generalize Lib.byteCells z64 = z at *
 go_simp
/-- a new array of zeros -/
theorem wl_zero64 (d : Nat) (hg1 : o1.guard = none) (hd : o1.dst = some d) (h1 : o1.op = .alloc 59)
 (h : ∀ g w2, Shh (g = w.heap.size) → Row w2 g 59 (Lib.byteCells z64) → Below w.heap.size w w2 → wpList Tryd.prog ops Q rest (a.put (some d) (.pointer (some ⟨g, 0, none⟩))) w2) : wpList Tryd.prog ops Q (o1 :: rest) a w := by
 refine wl_alloc64 hg1 h1 ?_
 rw [hd]
 exact h _ _ ⟨rfl⟩ (Row.new_ rfl rfl) (bel1 w _)
/-- a new array, filled -/
theorem wl_new64 (d : Nat) (m : List UInt8) (hm : m.length = 64) (hg1 : o1.guard = none) (hg2 : o2.guard = none) (hd : o1.dst = some d) (hd2 : o2.dst = none) (h1 : o1.op = .alloc 59) (h2 : o2.op = .store 59 (.tmp d) y)
 (hx : (a.put (some d) (.pointer (some ⟨w.heap.size, 0, none⟩))).eval (.tmp d) = .pointer (some ⟨w.heap.size, 0, none⟩)) (hy : (a.put (some d) (.pointer (some ⟨w.heap.size, 0, none⟩))).eval y = .agg (Lib.byteCells m).toArray)
 (h : ∀ g w2, Shh (g = w.heap.size) → Row w2 g 59 (Lib.byteCells m) → Below w.heap.size w w2 → wpList Tryd.prog ops Q rest (a.put (some d) (.pointer (some ⟨g, 0, none⟩))) w2) : wpList Tryd.prog ops Q (o1 :: o2 :: rest) a w := by
 refine wl_alloc64 hg1 h1 ?_
 rw [hd]
 refine wpList_store_any hg2 59 (.tmp d) y h2 w.heap.size hx (Lib.byteCells m) hy 59 (Lib.byteCells z64) (Row.new_ rfl rfl) (size_a64 hm) (by rw [Lib.byteCells_length, Lib.byteCells_length, hm]; rfl) (cell_oneCell m) ?_
 intro w2 r b z
 rw [hd2]
 exact h _ w2 ⟨rfl⟩ r ((bel1 w _).trans (b.under (by rw [asz]; omega) (Nat.le_refl _)))
theorem run_s2a {g off n c : Nat} (hn : 32 ≤ n) (ho : op.op = .sliceToArrayPointer 22 x) (hx : a.eval x = .slice (some ⟨g, off, none⟩) n c) : (execOp a.eval op).run Tryd.prog w = .ok (.value (.pointer (some ⟨g, off, none⟩))) w := by
 have h1 := run_arrayAt (P := Tryd.prog) w 22 5 32 (some ⟨g, off, none⟩) n c Tryd.underlying22 hn
 unfold execOp
 simp only [ho, hx]
 go_simp
end
/-- the first and the last half of a hash -/
theorem bc_mid {bs : List UInt8} (o n : Nat) : ((Lib.byteCells bs).drop o).take n = Lib.byteCells ((bs.drop o).take n) := by
 unfold Lib.byteCells
 rw [← List.map_drop, ← List.map_take]
theorem Row.bytes {w : World} {g : Nat} {T : TypeId} {bs : List UInt8} (h : Row w g T (Lib.byteCells bs)) (o n : Nat) : w.rangeAt g o (Lib.byteCells ((bs.drop o).take n)) := by
 rw [← bc_mid]
 exact h.mid o n
/-- two arrays are handed back -/
def TwoIs (w : World) (k r : List UInt8) (e : Ending) (w' : World) : Prop := e = .returned (.tuple #[.agg (Lib.byteCells k).toArray, .agg (Lib.byteCells r).toArray]) ∧ Below w.heap.size w w'
theorem results_two {P : Program} {fn : Func} {p q : Tmp} {tp tq : TypeId} (h : fn.results = #[.cell p tp, .cell q tq]) (tmps : Array Value) (w : World) (g g2 : Nat) (t t2 : TypeId) (cs cs2 : List Value) (d d2 : TypeDesc)
  (hp : tmps.getD p undef = .pointer (some ⟨g, 0, none⟩)) (hq : tmps.getD q undef = .pointer (some ⟨g2, 0, none⟩)) (hg : Row w g t cs) (hg2 : Row w g2 t2 cs2)
  (hu : P.underlying tp = some d) (hd : (match d with | .struct _ | .array _ _ => true | _ => false) = true) (hi : (P.info? tp).map (·.size) = some cs.length)
  (hu2 : P.underlying tq = some d2) (hd2 : (match d2 with | .struct _ | .array _ _ => true | _ => false) = true) (hi2 : (P.info? tq).map (·.size) = some cs2.length) :
  (results fn tmps).run P w = .ok (.tuple #[.agg cs.toArray, .agg cs2.toArray]) w := by
 have hp' : tmps[p]?.getD undef = .pointer (some ⟨g, 0, none⟩) := by simpa using hp
 have hq' : tmps[q]?.getD undef = .pointer (some ⟨g2, 0, none⟩) := by simpa using hq
 simp [results, h, hp', hq', asAddr, run_loadVar_row w g t tp cs.toArray (0, 0) d hg hu hd (by simpa using hi), run_loadVar_row w g2 t2 tq cs2.toArray (0, 0) d2 hg2 hu2 hd2 (by simpa using hi2)]
def dhB (m h : List UInt8) : List UInt8 := spongeL 72 6 (m ++ h) 64
theorem dhB_length (m h : List UInt8) : (dhB m h).length = 64 := spongeL_length _ _ _ _
def dhK (m h : List UInt8) : List UInt8 := (dhB m h).take 32
def dhR (m h : List UInt8) : List UInt8 := (dhB m h).drop 32
theorem dhK_length (m h : List UInt8) : (dhK m h).length = 32 := by unfold dhK; rw [List.length_take, dhB_length]; decide
theorem dhR_length (m h : List UInt8) : (dhR m h).length = 32 := by unfold dhR; rw [List.length_drop, dhB_length]
set_option maxHeartbeats 2000000 in
theorem kderived_any (m : List UInt8) (hm : m.length = 32) (h : List UInt8) (B : Nat) (v : Value) (w : World) (hs : Sl w B v h) (hB : B ≤ w.heap.size) (hv : KVars w) : Calls Tryd.prog 25 #[arrV m, v] w (TwoIs w (dhK m h) (dhR m h)) := by
 unfold TwoIs arrV
 have hpos := hv.pos
 generalize hN : w.heap.size = N at *
 obtain ⟨G, hG⟩ : ∃ G, Shh (G = dhB m h) := ⟨_, ⟨rfl⟩⟩
 have HG : Shh (G.length = 64 ∧ dhK m h = ((G.drop 0).take 32) ∧ dhR m h = (G.drop 32).take 32 ∧ ((G.drop 0).take 32).length = 32 ∧ ((G.drop 32).take 32).length = 32) := ⟨by
  have hl : G.length = 64 := by rw [hG.out]; exact dhB_length _ _
  refine ⟨hl, by rw [hG.out]; rfl, ?_, by rw [List.length_take, List.length_drop, hl]; decide, by rw [List.length_take, List.length_drop, hl]; decide⟩
  have h2 := dhR_length m h
  unfold dhR at h2 ⊢
  rw [← hG.out] at h2 ⊢
  rw [List.take_of_length_le (Nat.le_of_eq h2)]⟩
 rw [HG.out.2.1, HG.out.2.2.1]
 have HC : Shh (∀ W B' u, PartsO W B' B' u [m, h] → B' ≤ W.heap.size → KVars W → Calls Tryd.prog 39 #[u] W (SumIs W G)) := ⟨fun W B' u hp hB hv => by
  have h := sha3512_any [m, h] (by simp) B' u W hp hB hv
  rw [hG.out]
  simpa [dhB] using h⟩
 obtain ⟨A, c, rfl, _, _⟩ := hs.form
 obtain ⟨W0, hW0⟩ : ∃ W0, W0 = w.alloc (.cells (Lib.byteCells m).toArray 22) := ⟨_, rfl⟩
 have HL0 : Shh (Row W0 N 22 (Lib.byteCells m) ∧ Below N w W0 ∧ W0.heap.size = N + 1 ∧ Sl W0 (N + 1) (.slice A h.length c) h ∧ KVars W0 ∧ 0 < N ∧ m.length = 32) := by
  rw [hW0]
  refine ⟨Row.new_ hN.symm rfl, ?_, by rw [asz, hN], (hs.below ((bel1 _ _).mono (by omega))).more (by omega), hv.step (bel1 _ _), hpos, hm⟩
  rw [← hN]
  exact bel1 _ _
 clear hs hv hpos hB hG hm
 go_enter Tryd.func25, Tryd.ntmps25
 go_wp2_with (refine wl_zero32 4 rfl rfl rfl ?_)
 intro G4 w2 hG4 r2 b2
 rw [← hW0] at hG4 b2
 clear hW0 hN
 simp only [Act.put, arr9, hd9, tl9]
 have HI : Shh (Row w2 N 22 (Lib.byteCells m) ∧ Row w2 G4 22 (Lib.byteCells z32) ∧ Below N w w2 ∧ N < G4 ∧ Sl w2 w2.heap.size (.slice A h.length c) h ∧ KVars w2 ∧ 0 < N ∧ m.length = 32) := by
  obtain ⟨h1, h2, h3, h4, h5, h6, h7⟩ := HL0.out
  have := hG4.out
  have := r2.lt
  exact ⟨h1.go b2, r2, h2.trans (b2.mono (by omega)), by omega, (h4.below (b2.mono (by omega))).more (by omega), h5.step b2, h6, h7⟩
 clear r2 b2 hG4 HL0
 go_wp2_with (refine wl_zero32 5 rfl rfl rfl ?_)
 intro G5 w3 hG5 r3 b3
 simp only [Act.put, arr9, hd9, tl9]
 obtain ⟨M, hM⟩ : ∃ M, Shh (M = w3.heap.size) := ⟨_, ⟨rfl⟩⟩
 have HJ : Shh (Row w3 N 22 (Lib.byteCells m) ∧ Row w3 G4 22 (Lib.byteCells z32) ∧ Row w3 G5 22 (Lib.byteCells z32) ∧ Below N w w3 ∧ N < G4 ∧ G4 < G5 ∧ Sl w3 w3.heap.size (.slice A h.length c) h ∧ Sl w3 w3.heap.size (.slice (some ⟨N, 0, none⟩) 32 32) m ∧ KVars w3 ∧ 0 < N) := by
  obtain ⟨h1, h2, h3, h4, h5, h6, h7, h8⟩ := HI.out
  have := hG5.out
  have := h2.lt
  have := h1.lt
  have h1' := h1.go b3
  exact ⟨h1', h2.go b3, r3, h3.trans (b3.mono (by omega)), h4, by omega, h5.go b3, Sl.of_bytes h1' h1'.lt h8 (by decide), h6.step b3, h7⟩
 clear r3 b3 hG5 HI
 go_wp2_with (go_at_call 39; refine (HC.out _ (w3.heap.size + 1) _ (parts_two rfl HJ.out.2.2.2.2.2.2.2.1 HJ.out.2.2.2.2.2.2.1) (by rw [asz]; exact Nat.le_refl _) (HJ.out.2.2.2.2.2.2.2.2.1.step (bel1 _ _))).mono ?_)
 rintro e w4 ⟨rfl, b4⟩
 have HI : Shh (Row w4 G4 22 (Lib.byteCells z32) ∧ Row w4 G5 22 (Lib.byteCells z32) ∧ Below N w w4 ∧ N < G4 ∧ G4 < G5 ∧ G5 < w4.heap.size) := by
  obtain ⟨h1, h2, h3, h4, h5, h6, _⟩ := HJ.out
  have hb := Below.chain (bel1 w3 _) b4
  have := h3.lt
  have := hb.size
  exact ⟨h2.go hb, h3.go hb, h4.trans (hb.mono (by omega)), h5, h6, by omega⟩
 clear b4 HJ HC hM
 go_wp2_with (refine wl_new64 6 G HG.out.1 rfl rfl rfl rfl rfl rfl rfl rfl ?_)
 intro G6 w5 hG6 r5 b5
 simp only [Act.put, arr9, hd9, tl9]
 have HJ : Shh (Row w5 G4 22 (Lib.byteCells z32) ∧ Row w5 G5 22 (Lib.byteCells z32) ∧ Row w5 G6 59 (Lib.byteCells G) ∧ Below N w w5 ∧ N < G4 ∧ G4 < G5 ∧ G5 < G6) := by
  obtain ⟨h1, h2, h3, h4, h5, h6⟩ := HI.out
  have := hG6.out
  exact ⟨h1.go b5, h2.go b5, r5, h3.trans (b5.mono (by omega)), h4, h5, by omega⟩
 clear r5 b5 hG6 HI
 go_wp2
 refine wp_region_held_drew (S := fun w' => Row w' G6 59 (Lib.byteCells G)) (by kernel_rfl) HJ.out.2.2.1.drew (fun hS => ?_)
 clear hS
 obtain ⟨U, hU⟩ : ∃ V, V = World.drew w5 := ⟨_, rfl⟩
 rw [← hU]
 have HU : Shh (Row U G4 22 (Lib.byteCells z32) ∧ Row U G5 22 (Lib.byteCells z32) ∧ Row U G6 59 (Lib.byteCells G) ∧ Below N w U ∧ N < G4 ∧ G4 < G5 ∧ G5 < G6) := by
  rw [hU]
  exact ⟨HJ.out.1.drew, HJ.out.2.1.drew, HJ.out.2.2.1.drew, HJ.out.2.2.2.1.drew, HJ.out.2.2.2.2⟩
 clear hU HJ
 refine hdv 0 11 (.slice (some ⟨G6, 0, none⟩) 32 64) (by rfl) (fun w hS => run_slice_op (by first | exact ⟨rfl, rfl⟩ | (constructor <;> kernel_rfl)) (slice24_to G6 0 32 (by decide) w)) (HU.out.2.2.1) ?_
 refine hdv 1 12 (.pointer (some ⟨G6, 0, none⟩)) (by rfl) (fun w hS => run_s2a (n := 32) (c := 64) (by decide) rfl (by kernel_rfl)) (HU.out.2.2.1) ?_
 refine hdv 3 14 (.slice (some ⟨G6, 32, none⟩) 32 32) (by rfl) (fun w hS => run_slice_op_lo (by first | exact ⟨rfl, rfl⟩ | (constructor <;> kernel_rfl)) (slice24_from G6 0 32 (by decide) w)) (HU.out.2.2.1) ?_
 refine hdv 4 15 (.pointer (some ⟨G6, 32, none⟩)) (by rfl) (fun w hS => run_s2a (n := 32) (c := 32) (by decide) rfl (by kernel_rfl)) (HU.out.2.2.1) ?_
 refine held_load 2 22 (.tmp 12) (some 13) (by kernel_rfl) (by rfl) (by kernel_rfl) G6 0 (by kernel_rfl) (Lib.byteCells ((G.drop 0).take 32)) _ (fun w h => h.bytes 0 32) Tryd.underlying22 rfl (size_a32 HG.out.2.2.2.1) (fun _ _ _ _ h => h) (HU.out.2.2.1) ?_
 simp only [Act.put, arr9, hd9, tl9]
 refine held_load 5 22 (.tmp 15) (some 16) (by kernel_rfl) (by rfl) (by kernel_rfl) G6 32 (by kernel_rfl) (Lib.byteCells ((G.drop 32).take 32)) _ (fun w h => h.bytes 32 32) Tryd.underlying22 rfl (size_a32 HG.out.2.2.2.2) (fun _ _ _ _ h => h) (HU.out.2.2.1) ?_
 simp only [Act.put, arr9, hd9, tl9]
 refine held_one 6 (by kernel_rfl) ?_
 refine step_storeRow 6 22 (.tmp 4) (.tmp 13) (by rfl) (by kernel_rfl) G4 rfl (Lib.byteCells ((G.drop 0).take 32)) rfl 22 (Lib.byteCells z32) HU.out.1 (size_a32 HG.out.2.2.2.1) (by rw [Lib.byteCells_length, Lib.byteCells_length, HG.out.2.2.2.1, z32_length]) (cell_oneCell _) ?_
 intro Y r6 b6 z6
 have HY : Shh (Row Y G4 22 (Lib.byteCells ((G.drop 0).take 32)) ∧ Row Y G5 22 (Lib.byteCells z32) ∧ Row Y G6 59 (Lib.byteCells G) ∧ Below N w Y ∧ N < G4 ∧ G4 < G5 ∧ G5 < G6) := by
  obtain ⟨h1, h2, h3, h4, h5, h6, h7⟩ := HU.out
  exact ⟨r6, b6.row h2 h2.lt (by omega), b6.row h3 h3.lt (by omega), h4.trans (b6.under (by have := h1.lt; omega) (by omega)), h5, h6, h7⟩
 refine ⟨HY.out.2.2.1, ?_⟩
 clear r6 b6 z6 HU
 refine held_one 7 (by kernel_rfl) ?_
 refine step_storeRow 7 22 (.tmp 5) (.tmp 16) (by rfl) (by kernel_rfl) G5 rfl (Lib.byteCells ((G.drop 32).take 32)) rfl 22 (Lib.byteCells z32) HY.out.2.1 (size_a32 HG.out.2.2.2.2) (by rw [Lib.byteCells_length, Lib.byteCells_length, HG.out.2.2.2.2, z32_length]) (cell_oneCell _) ?_
 intro Z r6 b6 z6
 have HZ : Shh (Row Z G4 22 (Lib.byteCells ((G.drop 0).take 32)) ∧ Row Z G5 22 (Lib.byteCells ((G.drop 32).take 32)) ∧ Row Z G6 59 (Lib.byteCells G) ∧ Below N w Z) := by
  obtain ⟨h1, h2, h3, h4, h5, h6, h7⟩ := HY.out
  exact ⟨b6.row h1 h1.lt (by omega), r6, b6.row h3 h3.lt (by omega), h4.trans (b6.under (by have := h1.lt; omega) (by omega))⟩
 refine ⟨HZ.out.2.2.1, ?_⟩
 clear r6 b6 z6 HY
 refine wpAnyH_done (by kernel_rfl) ?_ _
 go_wp2
 exact bodyPost_ret (results_two Tryd.results25 _ _ G4 G5 _ _ _ _ _ _ rfl rfl HZ.out.1 HZ.out.2.1 Tryd.underlying22 rfl (size_a32 HG.out.2.2.2.1) Tryd.underlying22 rfl (size_a32 HG.out.2.2.2.2)) rfl ⟨rfl, HZ.out.2.2.2⟩
end Go.Proofs.YtbjpbeplpljieaaDoor

/-
 THE CHECKS OF KEYS: mustBeEk, mustBeDk.
-/
namespace Go.Proofs.YtbjpbeplpljieaaDoor
open Go.RowKit
set_option maxRecDepth 100000
section
variable {P : Program} {md : Region.Mode} {ops : Array Oper} {Q : Exit → Act → World → Prop} {S : World → Prop} {fuel : Nat} {listed : Array Bool} {a : Act} {w : World}
/-- a call that panics -/
theorem step_panic (i : Nat) (opv : Op) (ty : TypeId) (dst : Option Tmp) (f : FuncId) (args : Array Value)
  (hop : (ops[i]?).map (fun o => (o.op, o.type, o.dst)) = some (opv, ty, dst)) (hw : (ops[i]?).map (fun o => Region.wanted o (yielded ops a.tmps)) = some true)
  (hrun : (execOp a.eval ⟨dst, opv, ty, "", #[], none⟩).run P w = .ok (.enter f args) w)
  (hc : Calls P f args w fun e w' => ∃ ch, e = .panicked ch ∧ Q (.panic ch) a w') : HStep P md ops Q S fuel listed a w i := by
 unfold HStep
 cases ho : ops[i]? with
 | none => rw [ho] at hop; cases hop
 | some op =>
  rw [ho] at hop hw
  simp only [Option.map_some, Option.some.injEq, Prod.mk.injEq] at hop hw
  obtain ⟨dst', op', ty', pos', after', guard'⟩ := op
  obtain ⟨rfl, rfl, rfl⟩ := hop
  have hrun' : (execOp a.eval ⟨dst', op', ty', pos', after', guard'⟩).run P w = .ok (.enter f args) w := by
   rw [← hrun]
   unfold execOp
   rfl
  refine wpOp_step ho fun K' hK => ?_
  rw [if_pos hw]
  unfold Oper.wp
  rw [hrun', Oper.upon_enter]
  refine hc.mono fun e w' he => ?_
  obtain ⟨ch, rfl, h⟩ := he
  exact h
/-- s[i:j] -/
theorem run_slice_op2 {t ty : TypeId} {x lo hi : Operand} {ρ : Operand → Value} {u v l h : Value} {d : Option Tmp} (hx : ρ x = u ∧ ρ lo = l ∧ ρ hi = h) (hrun : (Instr.sliceAt t u (some l) (some h) none).run P w = .ok v w) :
  (execOp ρ ⟨d, .slice t x (some lo) (some hi) none, ty, "", #[], none⟩).run P w = .ok (.value v) w := by
 obtain ⟨rfl, rfl, rfl⟩ := hx
 unfold execOp
 simp only [Option.map_some, Option.map_none, Sem.run_bind, hrun, Result.andThen_ok]
 rfl
end
section
variable {a : Act} {x y : Operand} {op : Oper} {w : World}
theorem eqi_yes {i : Nat} {c : Int} (h : (i : Int) = c) (ho : op.op = .binOp .eql 3 x (.const (.int .i64 c)) 3) (hx : a.eval x = .int .i64 (i : Int)) : (execOp a.eval op).run Tryd.prog w = .ok (.value (.bool true)) w := by
 have hc : a.eval (.const (.int .i64 c)) = .int .i64 c := rfl
 subst h
 unfold execOp
 simp only [ho, hx, hc]
 go_simp
theorem eqi_no {i : Nat} {c : Int} (h : ¬ (i : Int) = c) (ho : op.op = .binOp .eql 3 x (.const (.int .i64 c)) 3) (hx : a.eval x = .int .i64 (i : Int)) : (execOp a.eval op).run Tryd.prog w = .ok (.value (.bool false)) w := by
 have hc : a.eval (.const (.int .i64 c)) = .int .i64 c := rfl
 have h2 : ((i : Int) == c) = false := by simpa using h
 unfold execOp
 simp only [ho, hx, hc]
 go_simp
end
/-- nothing is handed back, and what was in memory stays -/
def DoneIs (w : World) (e : Ending) (w' : World) : Prop := e = .returned (.tuple #[]) ∧ Below w.heap.size w w'
/-- an answer, or an error raised -/
def OrEr (ok : Prop) (w : World) (er : Int) (R : Ending → World → Prop) (e : Ending) (w' : World) : Prop := (ok → R e w') ∧ (¬ ok → PanIs w er e w')
set_option maxHeartbeats 2000000 in
theorem mustEk_any (ek : List UInt8) (hl : ek.length = 1184) (B : Nat) (v : Value) (w : World) (hs : Sl w B v ek) (hB : B ≤ w.heap.size) : Calls Tryd.prog 24 #[v] w (OrEr (canK (ek.take 1152) 3 = true) w 140 (DoneIs w)) := by
 unfold DoneIs
 obtain ⟨r, hr⟩ : ∃ r, r = canK (ek.take 1152) 3 := ⟨_, rfl⟩
 have HC : Shh (∀ W B' u, Sl W B' u (ek.take 1152) → B' ≤ W.heap.size → Calls Tryd.prog 48 #[u] W (BoolIs W r)) := ⟨fun W B' u hs hB => by
  rw [hr]
  exact canonical_any (ek.take 1152) (by rw [List.length_take]; omega) B' u W hs hB⟩
 rw [← hr]
 clear hr
 have HS := Shh.mk (And.intro hs hB)
 have HLL : Shh ((ek.length : Int) = 1184 ∧ 1152 ≤ ek.length) := ⟨by omega, by omega⟩
 obtain ⟨A, c, rfl, _, _⟩ := hs.form
 clear hs hB hl
 go_enter Tryd.func24, Tryd.ntmps24
 go_wp2_with (first | refine wl_at 4 rfl (.bool true) rfl (eqi_yes (i := ek.length) HLL.out.1 rfl rfl) ?_ | (go_at_call 29; refine (demand_yes 140 w).mono ?_))
 rintro e w2 ⟨rfl, rfl⟩
 go_wp2_with (refine wpList_slice_to rfl (.tmp 6) (.const (.int .i64 1152)) rfl B _ rfl ek HS.out.1 1152 rfl HLL.out.2 ?_)
 intro v1 hv1 _
 have HV := Shh.mk hv1
 clear hv1
 go_wp2_with (go_at_call 48; refine (HC.out w B v1 HV.out HS.out.2).mono ?_)
 rintro e w3 ⟨rfl, b3⟩
 have HB3 := Shh.mk b3
 clear b3
 cases r with
 | true =>
  go_wp2_with (go_at_call 29; refine (demand_yes 140 w3).mono ?_)
  rintro e w4 ⟨rfl, rfl⟩
  go_wp2
  go_end0
  exact ⟨fun _ => ⟨rfl, HB3.out⟩, fun h => absurd (by simp) h⟩
 | false =>
  go_wp2_with (go_at_call 29; refine (demand_no 140 w3).mono ?_)
  rintro e w4 ⟨rfl, b4⟩
  have HB4 : Shh (Below w.heap.size w w4) := ⟨Below.chain HB3.out b4⟩
  clear b4
  go_wp2
  exact ⟨rfl, fun h => by simp at h, fun _ => ⟨rfl, HB4.out⟩⟩
/-- the hash that a decapsulation key should hold -/
def hB (bs : List UInt8) : List UInt8 := spongeL 136 6 bs 32
theorem hB_length (bs : List UInt8) : (hB bs).length = 32 := spongeL_length _ _ _ _
def dkEk (dk : List UInt8) : List UInt8 := (dk.take 2336).drop 1152
def dkH (dk : List UInt8) : List UInt8 := (dk.take 2368).drop 2336
set_option maxHeartbeats 2000000 in
theorem mustDk_any (dk : List UInt8) (hl : dk.length = 2400) (B : Nat) (v : Value) (w : World) (hs : Sl w B v dk) (hBB : B ≤ w.heap.size) (hv : KVars w) : Calls Tryd.prog 28 #[v] w (OrEr (dkH dk = hB (dkEk dk)) w 141 (DoneIs w)) := by
 unfold DoneIs
 have HC : Shh (∀ W B' u, PartsO W B' B' u [dkEk dk] → B' ≤ W.heap.size → KVars W → Calls Tryd.prog 21 #[u] W (SumIs W (hB (dkEk dk)))) := ⟨fun W B' u hp hB' hv => by
  have h := sha3256_any [dkEk dk] (by simp) B' u W hp hB' hv
  simpa [hB] using h⟩
 have HML : Shh ((hB (dkEk dk)).length = 32) := ⟨hB_length _⟩
 have HDL : Shh ((dkH dk).length ≤ 1099511627776) := ⟨by unfold dkH; rw [List.length_drop, List.length_take]; omega⟩
 obtain ⟨m, hm⟩ : ∃ m, m = hB (dkEk dk) := ⟨_, rfl⟩
 rw [← hm] at HC HML ⊢
 clear hm
 have HS : Shh (Sl w B v dk ∧ B ≤ w.heap.size ∧ KVars w) := ⟨hs, hBB, hv⟩
 have HLL : Shh ((dk.length : Int) = 2400 ∧ 1152 ≤ 2336 ∧ 2336 ≤ dk.length ∧ 2336 ≤ 2368 ∧ 2368 ≤ dk.length) := ⟨by omega, by omega, by omega, by omega, by omega⟩
 obtain ⟨A, c, rfl, hc, _⟩ := hs.form
 have HCUT : Shh (2368 ≤ c) := ⟨by omega⟩
 clear hs hBB hv hl hc
 go_enter Tryd.func28, Tryd.ntmps28
 go_wp2_with (first | refine wl_at 5 rfl (.bool true) rfl (eqi_yes (i := dk.length) HLL.out.1 rfl rfl) ?_ | (go_at_call 29; refine (demand_yes 141 w).mono ?_))
 rintro e w2 ⟨rfl, rfl⟩
 go_wp2_with (refine wl_cut 1152 2336 rfl rfl rfl rfl rfl HS.out.1 HLL.out.2.1 HLL.out.2.2.1 ?_)
 intro v1 hv1
 obtain ⟨M, hM⟩ : ∃ M, Shh (M = w.heap.size) := ⟨_, ⟨rfl⟩⟩
 have HV : Shh (Sl w w.heap.size v1 (dkEk dk)) := ⟨hv1.more HS.out.2.1⟩
 clear hv1
 obtain ⟨A1, c1, rfl, _, _⟩ := HV.out.form
 go_wp2_with (go_at_call 21; refine (HC.out _ (w.heap.size + 1) _ (parts_one rfl HV.out) (by rw [asz]; exact Nat.le_refl _) (HS.out.2.2.step (bel1 _ _))).mono ?_)
 rintro e w3 ⟨rfl, b3⟩
 have HI : Shh (Below w.heap.size w w3) := ⟨Below.chain (bel1 w _) b3⟩
 clear b3 HC HV
 go_wp2_with (refine wl_new32 2 m HML.out rfl rfl rfl rfl rfl rfl rfl rfl ?_)
 intro G w5 hG r5 b5
 simp only [Act.put, arr9, hd9, tl9]
 have HJ : Shh (Row w5 G 22 (Lib.byteCells m) ∧ Below w.heap.size w w5) := ⟨r5, Below.chain HI.out b5⟩
 clear r5 b5 hG HI
 go_wp2
 refine wp_region_held_drew (S := fun w' => True) (by kernel_rfl) trivial (fun hS => ?_)
 clear hS
 obtain ⟨U, hU⟩ : ∃ V, V = World.drew w5 := ⟨_, rfl⟩
 rw [← hU]
 have HU : Shh (Row U G 22 (Lib.byteCells m) ∧ Below w.heap.size w U) := by
  rw [hU]
  exact ⟨HJ.out.1.drew, HJ.out.2.drew⟩
 clear hU HJ
 have HSD : Shh (Sl U B (sliced A 2336 2368 c 1) (dkH dk) ∧ Sl U U.heap.size (.slice (some ⟨G, 0, none⟩) 32 32) m) := ⟨(HS.out.1.below (HU.out.2.mono HS.out.2.1)).cut 2336 2368 (by decide) HLL.out.2.2.2.2 HCUT.out, Sl.of_bytes HU.out.1 HU.out.1.lt HML.out (by decide)⟩
 obtain ⟨r, hr⟩ : ∃ r, r = (dkH dk == m) := ⟨_, rfl⟩
 have HSM : Shh (Calls Tryd.prog 34 #[sliced A 2336 2368 c 1, .slice (some ⟨G, 0, none⟩) 32 32] U (HereIs U (.bool r))) := ⟨by
  rw [hr]
  exact same_any B U.heap.size _ _ _ _ U HSD.out.1 HSD.out.2 HDL.out (by rw [HML.out]; decide)⟩
 refine hdv0 0 11 (.slice A dk.length c) (by rfl) (trivial) ?_
 refine hdv 1 12 (sliced A 2336 2368 c 1) (by rfl) (fun w hS => run_slice_op2 (by first | exact ⟨rfl, rfl, rfl⟩ | (refine ⟨?_, ?_, ?_⟩ <;> kernel_rfl)) (run_cutLH A dk.length c 2336 2368 (by decide) HCUT.out w)) (trivial) ?_
 refine hdv0 2 13 (.slice (some ⟨G, 0, none⟩) 32 32) (by rfl) (trivial) ?_
 refine held_one 3 (by kernel_rfl) ?_
 refine step_call 3 _ _ (some 14) 34 #[sliced A 2336 2368 c 1, .slice (some ⟨G, 0, none⟩) 32 32] (by rfl) (by kernel_rfl) (by first | kernel_rfl | go_simp) ?_
 refine (HSM.out).mono ?_
 rintro e Y ⟨rfl, hq⟩
 obtain rfl : U = Y := hq
 refine ⟨_, rfl, trivial, ?_⟩
 simp only [Act.put, arr9, hd9, tl9]
 refine held_one 4 (by kernel_rfl) ?_
 clear HSM
 cases r with
 | true =>
  refine step_call 4 _ _ (some 15) 29 #[.bool true, .int .i64 141] (by rfl) (by kernel_rfl) (by first | kernel_rfl | go_simp) ?_
  refine (demand_yes 141 U).mono ?_
  rintro e Y ⟨rfl, hq⟩
  obtain rfl : U = Y := hq
  refine ⟨_, rfl, trivial, ?_⟩
  simp only [Act.put, arr9, hd9, tl9]
  refine wpAnyH_done (by kernel_rfl) ?_ _
  go_wp2
  go_end0
  exact ⟨fun _ => ⟨rfl, HU.out.2⟩, fun h => absurd (by simpa using hr.symm) h⟩
 | false =>
  refine step_panic 4 _ _ (some 15) 29 #[.bool false, .int .i64 141] (by rfl) (by kernel_rfl) (by first | kernel_rfl | go_simp) ?_
  refine (demand_no 141 U).mono ?_
  rintro e Y ⟨rfl, b4⟩
  have hb4 := Below.chain HU.out.2 b4
  refine ⟨_, rfl, ?_⟩
  go_wp2
  exact ⟨rfl, fun h => absurd h (by simpa using hr.symm), fun _ => ⟨rfl, hb4⟩⟩
end Go.Proofs.YtbjpbeplpljieaaDoor

/-
 THE TEXT OF A CIPHERTEXT: decrypted.
-/
namespace Go.Proofs.YtbjpbeplpljieaaDoor
open Go.RowKit
set_option maxRecDepth 100000
def uVec (ct : List UInt8) (k : Nat) : Nat → Nat := widF 10 (pieceB 10 (ct.take 960) k)
theorem widF_lt (d : Nat) (hd : d ≤ 12) (bs : List UInt8) (i : Nat) : widF d bs i < 65536 := dcmP_lt d hd _ i
theorem unV_lt (bs : List UInt8) (k i : Nat) : unV bs k i < 65536 := decF_16 12 _ i (by decide)
theorem inv_lt (p : Nat → Nat) (i : Nat) : invN p i < 65536 := rd_16 (rS 128 (fun j => iP p (2 * j + i % 2) * 3303 * (rtN j : Int) ^ (255 * (i / 2))))
theorem sub_lt (p q : Nat → Nat) (i : Nat) : subN p q i < 65536 := rd_16 ((p i : Int) - (q i : Int))
theorem add_lt (p q : Nat → Nat) (i : Nat) : addN p q i < 65536 := rd_16 ((p i : Int) + (q i : Int))
def decE (dk ct : List UInt8) : List UInt8 := narB 1 (subN (widF 4 (ct.drop 960)) (invN (prN (unV dk) (nttV (uVec ct)) 3)))
theorem narB_length (d : Nat) (p : Nat → Nat) : (narB d p).length = 32 * d := encB_length d _
theorem decE_length (dk ct : List UInt8) : (decE dk ct).length = 32 := narB_length 1 _
theorem own_some {w : World} {base e n : Nat} {v : Value} {xs : List Value} (h : w.ownsRow base e 1 v n xs) (hn : 0 < n) : ∃ g cap, v = .slice (some ⟨g, 0, none⟩) n cap := by
 rcases h.2 with ⟨_, h0⟩ | ⟨g, cap, cur, rfl, _⟩
 ·omega
 ·exact ⟨g, cap, rfl⟩
theorem Sl.range {w : World} {B g n c : Nat} {bs : List UInt8} (h : Sl w B (.slice (some ⟨g, 0, none⟩) n c) bs) (hn : 0 < bs.length) : w.rangeAt g 0 (Lib.byteCells bs) := fun j v hv => by
 obtain ⟨b, off, hA, _, hr⟩ := h.at_ hn
 cases hA
 have hj : j < bs.length := by
  rcases Nat.lt_or_ge j bs.length with h' | h'
  ·exact h'
  ·rw [List.getElem?_eq_none (by rw [Lib.byteCells_length]; exact h')] at hv; cases hv
 rw [byteCells_get bs j hj] at hv
 injection hv with hv
 subst hv
 exact hr j hj
theorem run_load_mid8 {P : Program} {a : Act} {w : World} {dst : Option Tmp} {ty ty2 : TypeId} {x : Operand} {g o : Nat} {cs : List Value} {d : TypeDesc} (hx : a.eval x = .pointer (some ⟨g, o, none⟩)) (hr : w.rangeAt g o cs)
 (hu : P.underlying ty = some d) (hd : d.isRow = true) (hi : (P.info? ty).map (·.size) = some cs.length) : (execOp a.eval ⟨dst, .load ty x, ty2, "", #[], none⟩).run P w = .ok (.value (.agg cs.toArray)) w := by
 unfold execOp
 simp only [hx, Instr.loadAt, Instr.sureAddr, Sem.run_bind, Sem.run_pure, Result.andThen_ok, run_loadVar_mid w g o ty cs d hr hu hd hi]
set_option maxHeartbeats 4000000 in
theorem decrypted_any (dk : List UInt8) (hdk : dk.length = 1152) (ct : List UInt8) (hct : ct.length = 1088) (B B2 : Nat) (v v2 : Value) (w : World) (hs : Sl w B v dk) (hBB : B ≤ w.heap.size) (hs2 : Sl w B2 v2 ct) (hB2 : B2 ≤ w.heap.size) : Calls Tryd.prog 30 #[v, v2] w (SumIs w (decE dk ct)) := by
 unfold SumIs decE
 obtain ⟨S, hS⟩ : ∃ S, S = unV dk := ⟨_, rfl⟩
 obtain ⟨U, hU⟩ : ∃ S, S = uVec ct := ⟨_, rfl⟩
 obtain ⟨v4, hv4⟩ : ∃ S, S = widF 4 (ct.drop 960) := ⟨_, rfl⟩
 rw [← hS, ← hU, ← hv4]
 have hSl : ∀ k : Nat, k < 3 → ∀ i, i < 256 → S k i < 65536 := fun k _ i _ => by rw [hS]; exact unV_lt _ _ _
 have hUl : ∀ k : Nat, k < 3 → ∀ i, i < 256 → U k i < 65536 := fun k _ i _ => by rw [hU]; exact widF_lt 10 (by decide) _ _
 have hVl : ∀ i, i < 256 → v4 i < 65536 := fun i _ => by rw [hv4]; exact widF_lt 4 (by decide) _ _
 have HUN : Shh (∀ W B' u, Sl W B' u dk → B' ≤ W.heap.size → Calls Tryd.prog 49 #[u] W (VecIs W S)) := ⟨fun W B' u hs hB => by
  rw [hS]
  exact unpackedK_any dk (by omega) B' u W hs hB⟩
 have HPI : Shh (∀ k : Nat, k < 3 → ∀ W B' u, Sl W B' u (ct.take 960) → Calls Tryd.prog 55 #[.int .i64 10, u, .int .i64 (k : Int)] W (CutIs W B' (pieceB 10 (ct.take 960) k))) := ⟨fun k hk W B' u hs => piece_any 10 k (by decide) hk _ (by rw [List.length_take]; omega) B' u W hs⟩
 have HWI : Shh (∀ k : Nat, k < 3 → ∀ W B' u, Sl W B' u (pieceB 10 (ct.take 960) k) → B' ≤ W.heap.size → Calls Tryd.prog 53 #[.int .i64 10, u] W (PolyIs W (U k))) := ⟨fun k hk W B' u hs hB => by
  rw [hU]
  exact widened_any 10 (by decide) B' u _ (pieceB_length 10 _ k (by rw [List.length_take]; omega)) W hs hB⟩
 have HW4 : Shh (∀ W B' u, Sl W B' u (ct.drop 960) → B' ≤ W.heap.size → Calls Tryd.prog 53 #[.int .i64 4, u] W (PolyIs W v4)) := ⟨fun W B' u hs hB => by
  rw [hv4]
  exact widened_any 4 (by decide) B' u _ (by rw [List.length_drop]; omega) W hs hB⟩
 have HT : Shh (∀ W, Calls Tryd.prog 40 #[.agg (vc U).toArray] W (VecIs W (nttV U))) := ⟨fun W => transforms_any U hUl W⟩
 have HP : Shh (∀ W, Calls Tryd.prog 43 #[.agg (vc S).toArray, .agg (vc (nttV U)).toArray] W (PolyIs W (prN S (nttV U) 3))) := ⟨fun W => kproduct_any S _ hSl (fun k _ i _ => nttV_lt U k i) W⟩
 have HI : Shh (∀ W, Calls Tryd.prog 51 #[.agg (pc (prN S (nttV U) 3)).toArray] W (PolyIs W (invN (prN S (nttV U) 3)))) := ⟨fun W => Inv_any _ (fun i _ => prN_lt _ _ _ _) W⟩
 have HSB : Shh (∀ W, Calls Tryd.prog 56 #[.agg (pc v4).toArray, .agg (pc (invN (prN S (nttV U) 3))).toArray] W (PolyIs W (subN v4 (invN (prN S (nttV U) 3))))) := ⟨fun W => Sub_any _ _ hVl (fun i _ => inv_lt _ _) W⟩
 have HNA : Shh (∀ W, Calls Tryd.prog 54 #[.int .i64 1, .agg (pc (subN v4 (invN (prN S (nttV U) 3)))).toArray] W (OwnIs W (narB 1 (subN v4 (invN (prN S (nttV U) 3)))))) := ⟨fun W => narrowed_any 1 (by decide) _ (fun i _ => sub_lt _ _ _) W⟩
 have HML : Shh ((narB 1 (subN v4 (invN (prN S (nttV U) 3)))).length = 32) := ⟨narB_length 1 _⟩
 generalize narB 1 (subN v4 (invN (prN S (nttV U) 3))) = m at *
 generalize subN v4 (invN (prN S (nttV U) 3)) = p4 at *
 generalize invN (prN S (nttV U) 3) = p3 at *
 generalize prN S (nttV U) 3 = p2 at *
 generalize nttV U = TU at *
 have HLL : Shh (960 ≤ ct.length) := ⟨by omega⟩
 clear hS hU hv4 hSl hUl hVl hdk hct
 generalize hN : w.heap.size = N at *
 have HS0 : Shh (Sl w N v dk ∧ Sl w N v2 ct ∧ w.heap.size = N) := ⟨hs.more hBB, hs2.more hB2, hN⟩
 obtain ⟨A, c, rfl, _, _⟩ := hs.form
 obtain ⟨A2, c2, rfl, _, _⟩ := hs2.form
 clear hs hs2 hBB hB2 hN
 go_enter Tryd.func30, Tryd.ntmps30
 go_wp2_with (refine wl_zero32 4 rfl rfl rfl ?_)
 intro N1 w2 hN1 r2 b2
 simp only [Act.put, arr9, hd9, tl9]
 obtain rfl : N = N1 := HS0.out.2.2.symm.trans hN1.out.symm
 have HI2 : Shh (Sl w2 N (.slice A dk.length c) dk ∧ Sl w2 N (.slice A2 ct.length c2) ct ∧ Row w2 N 22 (Lib.byteCells z32) ∧ Below N w w2) := by
  obtain ⟨h1, h2, h4⟩ := HS0.out
  rw [h4] at b2
  exact ⟨h1.below b2, h2.below b2, r2, b2⟩
 clear r2 b2 hN1 HS0
 go_wp2_with (go_at_call 49; refine (HUN.out _ N _ HI2.out.1 (Nat.le_of_lt HI2.out.2.2.1.lt)).mono ?_)
 rintro e w3 ⟨rfl, b3⟩
 have HJ : Shh (Sl w3 N (.slice A2 ct.length c2) ct ∧ Row w3 N 22 (Lib.byteCells z32) ∧ Below N w w3) := by
  obtain ⟨h1, h2, h3, h4⟩ := HI2.out
  have := h3.lt
  exact ⟨h2.below (b3.mono (by omega)), h3.go b3, h4.trans (b3.mono (by omega))⟩
 clear b3 HI2 HUN
 go_wp2_with (refine wl_newV 5 S rfl rfl rfl rfl rfl rfl rfl rfl ?_)
 intro G5 w4 hG5 r4 b4
 simp only [Act.put, arr9, hd9, tl9]
 have HI2 : Shh (Sl w4 N (.slice A2 ct.length c2) ct ∧ Row w4 N 22 (Lib.byteCells z32) ∧ Below N w w4 ∧ Row w4 G5 64 (vc S) ∧ N < G5) := by
  obtain ⟨h2, h3, h4⟩ := HJ.out
  have := h3.lt
  have := hG5.out
  exact ⟨h2.below (b4.mono (by omega)), h3.go b4, h4.trans (b4.mono (by omega)), r4, by omega⟩
 clear b4 r4 hG5 HJ
 go_wp2_with (refine wl_zeroV 6 rfl rfl rfl ?_)
 intro G6 w5 hG6 r5 b5
 simp only [Act.put, arr9, hd9, tl9]
 have HJ : Shh (Sl w5 N (.slice A2 ct.length c2) ct ∧ Row w5 N 22 (Lib.byteCells z32) ∧ Below N w w5 ∧ Row w5 G5 64 (vc S) ∧ N < G5 ∧ Row w5 G6 64 (vc zV) ∧ G5 < G6) := by
  obtain ⟨h2, h3, h4, h5, h6⟩ := HI2.out
  have := h3.lt
  have := h5.lt
  have := hG6.out
  exact ⟨h2.below (b5.mono (by omega)), h3.go b5, h4.trans (b5.mono (by omega)), h5.go b5, h6, r5, by omega⟩
 clear b5 r5 hG6 HI2
 go_wp2
 go_loopw [11] (fun cc wr => ∃ k : Nat, k ≤ 3 ∧ cc = .int .i64 (k : Int) ∧ Shh (Sl wr N (.slice A2 ct.length c2) ct ∧ Row wr N 22 (Lib.byteCells z32) ∧ Below N w wr ∧ Row wr G5 64 (vc S) ∧ N < G5 ∧ Row wr G6 64 (vc (hfV U zV k)) ∧ G5 < G6)) (fun cc _ => 3 - (intOf cc).toNat)
 case atStart => exact ⟨0, Nat.zero_le _, rfl, ⟨by rw [hfV_zero]; exact HJ.out⟩⟩
 case round =>
  clear HJ
  obtain ⟨k, hk, rfl, HK⟩ := hrel
  by_cases hlt : k < 3
  ·have hlt2 : (k : Int) < 3 := by omega
   obtain ⟨O, hO⟩ : ∃ O, Shh (O = 256 * k) := ⟨_, ⟨rfl⟩⟩
   have HN := Shh.mk (hfV_next U zV k)
   go_wp2_with (refine wpList_slice_to rfl (.tmp 15) (.const (.int .i64 960)) rfl N _ rfl ct HK.out.1 960 rfl HLL.out ?_)
   intro v1 hv1 _
   have HV := Shh.mk hv1
   clear hv1
   go_wp2_with (go_at_call 55; refine (HPI.out k hlt _ N _ HV.out).mono ?_)
   rintro e w6 ⟨u, rfl, hu, rfl⟩
   have HU := Shh.mk hu
   clear hu HV
   go_wp2_with (go_at_call 53; refine (HWI.out k hlt _ N _ HU.out (Nat.le_of_lt HK.out.2.1.lt)).mono ?_)
   rintro e w7 ⟨rfl, b7⟩
   have HK2 : Shh (Sl w7 N (.slice A2 ct.length c2) ct ∧ Row w7 N 22 (Lib.byteCells z32) ∧ Below N w w7 ∧ Row w7 G5 64 (vc S) ∧ N < G5 ∧ Row w7 G6 64 (vc (hfV U zV k)) ∧ G5 < G6) := by
    obtain ⟨h2, h3, h4, h5, h6, h7, h8⟩ := HK.out
    have := h3.lt
    exact ⟨h2.below (b7.mono (by omega)), h3.go b7, h4.trans (b7.mono (by omega)), h5.go b7, h6, h7.go b7, h8⟩
   clear b7 HK HU
   go_wp2_with (first | refine wl_at 20 rfl (.pointer (some ⟨G6, O, none⟩)) rfl (run_atV hlt hO.out rfl rfl rfl) ?_ | refine wl_storeE rfl rfl hlt hO.out rfl rfl rfl HK2.out.2.2.2.2.2.1 ?_)
   intro w8 r8 b8 z8
   rw [HN.out] at r8
   have HK3 : Shh (Sl w8 N (.slice A2 ct.length c2) ct ∧ Row w8 N 22 (Lib.byteCells z32) ∧ Below N w w8 ∧ Row w8 G5 64 (vc S) ∧ N < G5 ∧ Row w8 G6 64 (vc (hfV U zV (k + 1))) ∧ G5 < G6) := by
    obtain ⟨h2, h3, h4, h5, h6, h7, h8⟩ := HK2.out
    have hb := b8.under (Nat.le_of_lt h7.lt) (Nat.le_refl _)
    exact ⟨h2.below (hb.mono (by omega)), h3.below hb (by omega), h4.trans (hb.mono (by omega)), h5.below hb h8, h6, r8, h8⟩
   clear r8 b8 z8 HK2
   go_wp2
   go_roundw
   case rel => exact ⟨k + 1, by omega, by go_num, HK3⟩
   case measure => simp [intOf]; omega
  ·have HL : Shh (vc (hfV U zV k) = vc U) := ⟨by rw [show k = 3 by omega]; exact hfV_all _ _⟩
   rw [HL.out] at HK
   have hlt2 : ¬ (k : Int) < 3 := by omega
   clear HL HPI HWI
   go_wp2_with (refine wpList_slice_from rfl (.tmp 22) (.const (.int .i64 960)) rfl N _ rfl ct HK.out.1 960 rfl HLL.out ?_)
   intro v1 hv1 _
   have HV := Shh.mk hv1
   clear hv1
   go_wp2_with (go_at_call 53; refine (HW4.out _ N _ HV.out (Nat.le_of_lt HK.out.2.1.lt)).mono ?_)
   rintro e w7 ⟨rfl, b7⟩
   have HK2 : Shh (Row w7 N 22 (Lib.byteCells z32) ∧ Below N w w7 ∧ Row w7 G5 64 (vc S) ∧ N < G5 ∧ Row w7 G6 64 (vc U) ∧ G5 < G6) := by
    obtain ⟨h2, h3, h4, h5, h6, h7, h8⟩ := HK.out
    have := h3.lt
    exact ⟨h3.go b7, h4.trans (b7.mono (by omega)), h5.go b7, h6, h7.go b7, h8⟩
   clear b7 HK HV HW4
   go_wp2_with (refine wl_newP 8 v4 rfl rfl rfl rfl rfl rfl rfl rfl ?_)
   intro G8 w8 hG8 r8 b8
   simp only [Act.put, arr9, hd9, tl9]
   have HK3 : Shh (Row w8 N 22 (Lib.byteCells z32) ∧ Below N w w8 ∧ Row w8 G5 64 (vc S) ∧ N < G5 ∧ Row w8 G6 64 (vc U) ∧ G5 < G6 ∧ Row w8 G8 62 (pc v4) ∧ G6 < G8) := by
    obtain ⟨h3, h4, h5, h6, h7, h8⟩ := HK2.out
    have := h3.lt
    have := hG8.out
    have := h7.lt
    exact ⟨h3.go b8, h4.trans (b8.mono (by omega)), h5.go b8, h6, h7.go b8, h8, r8, by omega⟩
   clear b8 r8 hG8 HK2
   go_wp2
   refine wp_region_held_drew (S := fun w' => Row w' G5 64 (vc S) ∧ Row w' G6 64 (vc U) ∧ Row w' G8 62 (pc v4)) (by kernel_rfl) ⟨HK3.out.2.2.1.drew, HK3.out.2.2.2.2.1.drew, HK3.out.2.2.2.2.2.2.1.drew⟩ (fun hS => ?_)
   clear hS
   obtain ⟨X, hX⟩ : ∃ V, V = World.drew w8 := ⟨_, rfl⟩
   rw [← hX]
   have q0 : Row X N 22 (Lib.byteCells z32) := by rw [hX]; exact HK3.out.1.drew
   have q1 : Row X G5 64 (vc S) := by rw [hX]; exact HK3.out.2.2.1.drew
   have q2 : Row X G6 64 (vc U) := by rw [hX]; exact HK3.out.2.2.2.2.1.drew
   have q3 : Row X G8 62 (pc v4) := by rw [hX]; exact HK3.out.2.2.2.2.2.2.1.drew
   have bN : Below N w X := by rw [hX]; exact HK3.out.2.1.drew
   have HG : Shh (N < G5 ∧ G5 < G6 ∧ G6 < G8) := ⟨HK3.out.2.2.2.1, HK3.out.2.2.2.2.2.1, HK3.out.2.2.2.2.2.2.2⟩
   clear hX HK3
   refine held_load 0 62 (.tmp 8) (some 25) (by kernel_rfl) (by rfl) (by kernel_rfl) G8 0 (by kernel_rfl) (pc v4) _ (fun w h => h.2.2.range) Tryd.underlying62 rfl (info_poly.trans (size_poly _)) (fun _ _ _ _ h => h) (⟨q1, q2, q3⟩) ?_
   simp only [Act.put, arr9, hd9, tl9]
   refine held_load 1 64 (.tmp 5) (some 26) (by kernel_rfl) (by rfl) (by kernel_rfl) G5 0 (by kernel_rfl) (vc S) _ (fun w h => h.1.range) Tryd.underlying64 rfl (info_vec.trans (size_vec _)) (fun _ _ _ _ h => h) (⟨q1, q2, q3⟩) ?_
   simp only [Act.put, arr9, hd9, tl9]
   refine held_load 2 64 (.tmp 6) (some 27) (by kernel_rfl) (by rfl) (by kernel_rfl) G6 0 (by kernel_rfl) (vc U) _ (fun w h => h.2.1.range) Tryd.underlying64 rfl (info_vec.trans (size_vec _)) (fun _ _ _ _ h => h) (⟨q1, q2, q3⟩) ?_
   simp only [Act.put, arr9, hd9, tl9]
   refine held_one 3 (by kernel_rfl) ?_
   refine step_call 3 _ _ (some 28) 40 #[.agg (vc U).toArray] (by rfl) (by kernel_rfl) (by first | kernel_rfl | go_simp) ?_
   refine (HT.out X).mono ?_
   rintro e Y1 ⟨rfl, b1⟩
   have bx : Below X.heap.size X Y1 := b1
   clear b1
   have b_X := bx
   have m_Y1 : X.heap.size ≤ Y1.heap.size := bx.size
   clear bx
   refine ⟨_, rfl, ⟨(q1.go b_X), (q2.go b_X), (q3.go b_X)⟩, ?_⟩
   simp only [Act.put, arr9, hd9, tl9]
   refine held_one 4 (by kernel_rfl) ?_
   refine step_call 4 _ _ (some 29) 43 #[.agg (vc S).toArray, .agg (vc TU).toArray] (by rfl) (by kernel_rfl) (by first | kernel_rfl | go_simp) ?_
   refine (HP.out Y1).mono ?_
   rintro e Y2 ⟨rfl, b1⟩
   have bx : Below Y1.heap.size Y1 Y2 := b1
   clear b1
   replace b_X := Below.chain b_X bx
   have b_Y1 := bx
   have m_Y2 : Y1.heap.size ≤ Y2.heap.size := bx.size
   clear bx
   refine ⟨_, rfl, ⟨(q1.go b_X), (q2.go b_X), (q3.go b_X)⟩, ?_⟩
   simp only [Act.put, arr9, hd9, tl9]
   refine held_one 5 (by kernel_rfl) ?_
   refine step_call 5 _ _ (some 30) 51 #[.agg (pc p2).toArray] (by rfl) (by kernel_rfl) (by first | kernel_rfl | go_simp) ?_
   refine (HI.out Y2).mono ?_
   rintro e Y3 ⟨rfl, b1⟩
   have bx : Below Y2.heap.size Y2 Y3 := b1
   clear b1
   replace b_X := Below.chain b_X bx
   replace b_Y1 := Below.chain b_Y1 bx
   have b_Y2 := bx
   have m_Y3 : Y2.heap.size ≤ Y3.heap.size := bx.size
   clear bx
   refine ⟨_, rfl, ⟨(q1.go b_X), (q2.go b_X), (q3.go b_X)⟩, ?_⟩
   simp only [Act.put, arr9, hd9, tl9]
   refine held_one 6 (by kernel_rfl) ?_
   refine step_call 6 _ _ (some 31) 56 #[.agg (pc v4).toArray, .agg (pc p3).toArray] (by rfl) (by kernel_rfl) (by first | kernel_rfl | go_simp) ?_
   refine (HSB.out Y3).mono ?_
   rintro e Y4 ⟨rfl, b1⟩
   have bx : Below Y3.heap.size Y3 Y4 := b1
   clear b1
   replace b_X := Below.chain b_X bx
   replace b_Y1 := Below.chain b_Y1 bx
   replace b_Y2 := Below.chain b_Y2 bx
   have b_Y3 := bx
   have m_Y4 : Y3.heap.size ≤ Y4.heap.size := bx.size
   clear bx
   refine ⟨_, rfl, ⟨(q1.go b_X), (q2.go b_X), (q3.go b_X)⟩, ?_⟩
   simp only [Act.put, arr9, hd9, tl9]
   have HY : Shh (Row Y4 N 22 (Lib.byteCells z32) ∧ Row Y4 G5 64 (vc S) ∧ Row Y4 G6 64 (vc U) ∧ Row Y4 G8 62 (pc v4) ∧ Below N w Y4) := ⟨(q0.go b_X), (q1.go b_X), (q2.go b_X), (q3.go b_X), bN.trans (b_X.mono (Nat.le_of_lt q0.lt))⟩
   clear b_X bN q0 q1 q2 q3
   refine held_one 7 (by kernel_rfl) ?_
   refine step_call 7 _ _ (some 32) 54 #[.int .i64 1, .agg (pc p4).toArray] (by rfl) (by kernel_rfl) (by first | kernel_rfl | go_simp) ?_
   refine (HNA.out Y4).mono ?_
   rintro e Z ⟨u, rfl, hu, bu⟩
   obtain ⟨g, cap, rfl⟩ := own_some hu (by rw [HML.out]; decide)
   have HZ : Shh (Row Z N 22 (Lib.byteCells z32) ∧ (Row Z G5 64 (vc S) ∧ Row Z G6 64 (vc U) ∧ Row Z G8 62 (pc v4)) ∧ Below N w Z ∧ Sl Z Z.heap.size (.slice (some ⟨g, 0, none⟩) m.length cap) m) := by
    obtain ⟨h1, h2, h3, h4, h5⟩ := HY.out
    exact ⟨h1.go bu, ⟨h2.go bu, h3.go bu, h4.go bu⟩, h5.trans (bu.mono (Nat.le_of_lt h1.lt)), Sl.of_own hu⟩
   clear hu bu HY
   refine ⟨_, rfl, HZ.out.2.1, ?_⟩
   simp only [Act.put, arr9, hd9, tl9]
   refine hdv 8 33 (.pointer (some ⟨g, 0, none⟩)) (by rfl) (fun w hS => run_s2a (n := m.length) (c := cap) (by rw [HML.out]; decide) rfl (by kernel_rfl)) HZ.out.2.1 ?_
   refine held_one 9 (by kernel_rfl) ?_
   refine step_value 9 _ _ (some 34) (.agg (Lib.byteCells m).toArray) Z (by rfl) (by kernel_rfl) (run_load_mid8 (by kernel_rfl) (HZ.out.2.2.2.range (by rw [HML.out]; decide)) Tryd.underlying22 rfl (size_a32 HML.out)) HZ.out.2.1 ?_
   simp only [Act.put, arr9, hd9, tl9]
   refine held_one 10 (by kernel_rfl) ?_
   refine step_storeRow 10 22 (.tmp 4) (.tmp 34) (by rfl) (by kernel_rfl) N rfl (Lib.byteCells m) rfl 22 (Lib.byteCells z32) HZ.out.1 (size_a32 HML.out) (by rw [Lib.byteCells_length, Lib.byteCells_length, HML.out, z32_length]) (cell_oneCell _) ?_
   intro Y r6 b6 z6
   have HY : Shh (Row Y N 22 (Lib.byteCells m) ∧ (Row Y G5 64 (vc S) ∧ Row Y G6 64 (vc U) ∧ Row Y G8 62 (pc v4)) ∧ Below N w Y) := by
    obtain ⟨h1, ⟨h2, h3, h4⟩, h5, _⟩ := HZ.out
    have := HG.out
    exact ⟨r6, ⟨b6.row h2 h2.lt (by omega), b6.row h3 h3.lt (by omega), b6.row h4 h4.lt (by omega)⟩, h5.trans (b6.under (Nat.le_of_lt h1.lt) (Nat.le_refl _))⟩
   refine ⟨HY.out.2.1, ?_⟩
   clear r6 b6 z6 HZ
   refine wpAnyH_done (by kernel_rfl) ?_ _
   go_wp2
   exact ret_row Tryd.results30 rfl rfl HY.out.1 Tryd.underlying22 rfl (size_a32 HML.out) ⟨rfl, HY.out.2.2⟩
end Go.Proofs.YtbjpbeplpljieaaDoor

/-
 A PAIR OF KEYS: pair.
-/
namespace Go.Proofs.YtbjpbeplpljieaaDoor
open Go.RowKit
set_option maxRecDepth 100000
theorem row_part {w : World} {g off n c : Nat} {T : TypeId} {bs : List UInt8} (hr : Row w g T (Lib.byteCells bs)) (hn : off + n ≤ bs.length) (hc : n ≤ c) (hm : c ≤ 1000000) : Sl w (g + 1) (.slice (some ⟨g, off, none⟩) n c) ((bs.drop off).take n) := by
 have hl : ((bs.drop off).take n).length = n := by rw [List.length_take, List.length_drop]; omega
 refine Sl.of_row hr (Nat.lt_succ_self _) hl hc (by unfold maxLen; omega) fun k hk => ?_
 rw [byteCells_get bs (off + k) (by omega)]
 simp
theorem rowV_lt (rho : List UInt8) (i j k : Nat) : rowV rho i j k < 65536 := elF_lt rho i j k
theorem colV_lt (rho : List UInt8) (j i k : Nat) : colV rho j i k < 65536 := elF_lt rho i j k
section
variable {md : Region.Mode} {ops : Array Oper} {Q : Exit → Act → World → Prop} {S : World → Prop} {fuel : Nat} {listed : Array Bool} {a : Act} {w : World}
/-- a store of one polynomial of a vector -/
theorem step_storeE (i : Nat) (x y : Operand) (hop : (ops[i]?).map (fun o => (o.op, o.dst)) = some (.store 62 x y, none)) (hw : (ops[i]?).map (fun o => Region.wanted o (yielded ops a.tmps)) = some true)
  {g k O : Nat} {V : Nat → Nat → Nat} {q : Nat → Nat} (hk : k < 3) (hO : O = 256 * k) (hx : a.eval x = .pointer (some ⟨g, O, none⟩)) (hy : a.eval y = .agg (pc q).toArray) (hr : Row w g 64 (vc V))
  (h : ∀ w2, Row w2 g 64 (vc (updV V k q)) → But w.heap.size g w w2 → w2.heap.size = w.heap.size → S w2 ∧ wpAnyH Tryd.prog md ops Q S fuel (listed.setIfInBounds i true) a w2) : HStep Tryd.prog md ops Q S fuel listed a w i := by
 unfold HStep
 cases ho : ops[i]? with
 | none => rw [ho] at hop; cases hop
 | some op =>
  rw [ho] at hop hw
  simp only [Option.map_some, Option.some.injEq, Prod.mk.injEq] at hop hw
  refine wpOp_step ho fun K' hK => ?_
  rw [if_pos hw]
  have hr2 := hr.setCells (pc q) O
  rw [hO, vc_over V hk q, ← hO] at hr2
  refine wp_store_mid 62 x y hop.1 g O (pc q).toArray hx hy (hr.there O _ (by rw [List.size_toArray, pc_length, vc_length]; omega)) (info_poly.trans (by rw [List.size_toArray, pc_length])) (all_oneCell_toArray (pc_one q)) (hK _ _ ?_)
  rw [hop.2]
  exact h _ hr2 ((But.refl _ g w).setCells _ _) (size_setCells _ _ _)
end
def rhoB (d : List UInt8) : List UInt8 := ((dhB d [3]).drop 0).take 32
def sigB (d : List UInt8) : List UInt8 := ((dhB d [3]).drop 32).take 32
theorem rhoB_length (d : List UInt8) : (rhoB d).length = 32 := by unfold rhoB; rw [List.length_take, List.length_drop, dhB_length]; decide
def sVec (d : List UInt8) : Nat → Nat → Nat := nttV (noisV (sigB d) 0)
def eVec (d : List UInt8) : Nat → Nat → Nat := nttV (noisV (sigB d) 3)
def tVec (d : List UInt8) (k : Nat) : Nat → Nat := addN (prN (rowV (rhoB d) k) (sVec d) 3) (eVec d k)
def ekB (d : List UInt8) : List UInt8 := pkN (tVec d) 3 ++ rhoB d
def dkB (d : List UInt8) : List UInt8 := pkN (sVec d) 3
theorem ekB_length (d : List UInt8) : (ekB d).length = 1184 := by unfold ekB; rw [List.length_append, pkN_length, rhoB_length]
theorem dkB_length (d : List UInt8) : (dkB d).length = 1152 := pkN_length _ 3
/-- the matrix is one -/
def rowOk (rho : List UInt8) (i : Nat) : Prop := ∀ j : Nat, j < 3 → elOk rho i j
def allOk (rho : List UInt8) : Prop := ∀ i : Nat, i < 3 → rowOk rho i
/-- two slices of bytes are handed back, each in memory of its own -/
def PairIs (w : World) (a b : List UInt8) (e : Ending) (w' : World) : Prop := ∃ va vb, e = .returned (.tuple #[va, vb]) ∧ w'.ownsRow w.heap.size 5 1 va a.length (Lib.byteCells a) ∧ w'.ownsRow w.heap.size 5 1 vb b.length (Lib.byteCells b) ∧ Below w.heap.size w w'
set_option maxHeartbeats 8000000 in
theorem pair_any (d : List UInt8) (hd : d.length = 32) (w : World) (hv : KVars w) : Calls Tryd.prog 20 #[arrV d] w (OrPan (allOk (rhoB d)) w (PairIs w (ekB d) (dkB d))) := by
 unfold PairIs arrV allOk ekB dkB
 have hpos := hv.pos
 obtain ⟨SD, hSD⟩ : ∃ S, Shh (S = dhB d [3]) := ⟨_, ⟨rfl⟩⟩
 have HSD : Shh (SD.length = 64) := ⟨by rw [hSD.out]; exact dhB_length _ _⟩
 have HC : Shh (∀ W B' u, PartsO W B' B' u [d, [UInt8.ofNat 3]] → B' ≤ W.heap.size → KVars W → Calls Tryd.prog 39 #[u] W (SumIs W SD)) := ⟨fun W B' u hp hB hv => by
  have h := sha3512_any [d, [UInt8.ofNat 3]] (by simp) B' u W hp hB hv
  rw [hSD.out]
  simpa [dhB] using h⟩
 obtain ⟨rho, hrho⟩ : ∃ S, S = rhoB d := ⟨_, rfl⟩
 obtain ⟨sig, hsig⟩ : ∃ S, S = sigB d := ⟨_, rfl⟩
 have HRS : Shh (rho = (SD.drop 0).take 32 ∧ sig = (SD.drop 32).take 32) := ⟨by rw [hrho, hSD.out]; rfl, by rw [hsig, hSD.out]; rfl⟩
 obtain ⟨S, hS⟩ : ∃ S, S = sVec d := ⟨_, rfl⟩
 obtain ⟨E, hE⟩ : ∃ S, S = eVec d := ⟨_, rfl⟩
 obtain ⟨T, hT⟩ : ∃ S, S = tVec d := ⟨_, rfl⟩
 have HN : Shh (∀ W B' u, Sl W B' u sig → B' ≤ W.heap.size → KVars W → Calls Tryd.prog 41 #[u, .int .i64 0] W (VecIs W (noisV sig 0)) ∧ Calls Tryd.prog 41 #[u, .int .i64 3] W (VecIs W (noisV sig 3))) := ⟨fun W B' u hs hB hv => ⟨noises_any sig 0 (by decide) B' u W hs hB hv, noises_any sig 3 (by decide) B' u W hs hB hv⟩⟩
 have HT0 : Shh (∀ W, Calls Tryd.prog 40 #[.agg (vc (noisV sig 0)).toArray] W (VecIs W S)) := ⟨fun W => by rw [hS, sVec, ← hsig]; exact transforms_any _ (fun k _ i _ => noiN_lt _ _ _) W⟩
 have HT3 : Shh (∀ W, Calls Tryd.prog 40 #[.agg (vc (noisV sig 3)).toArray] W (VecIs W E)) := ⟨fun W => by rw [hE, eVec, ← hsig]; exact transforms_any _ (fun k _ i _ => noiN_lt _ _ _) W⟩
 have hSl : ∀ k : Nat, k < 3 → ∀ i, i < 256 → S k i < 65536 := fun k _ i _ => by rw [hS]; exact nttV_lt _ _ _
 have hEl : ∀ k : Nat, k < 3 → ∀ i, i < 256 → E k i < 65536 := fun k _ i _ => by rw [hE]; exact nttV_lt _ _ _
 obtain ⟨okR, hok⟩ : ∃ S, S = rowOk rho := ⟨_, rfl⟩
 have HR : Shh (∀ k : Nat, k < 3 → ∀ W B' u, Sl W B' u rho → B' ≤ W.heap.size → KVars W → Calls Tryd.prog 44 #[u, .int .i64 (k : Int)] W (OrPan (okR k) W (VecIs W (rowV rho k)))) := ⟨fun k hk W B' u hs hB hv => by
  rw [hok]
  exact row_any rho (by rw [hrho]; exact rhoB_length d) k hk B' u W hs hB hv⟩
 have HP : Shh (∀ k : Nat, k < 3 → ∀ W, Calls Tryd.prog 43 #[.agg (vc (rowV rho k)).toArray, .agg (vc S).toArray] W (PolyIs W (prN (rowV rho k) S 3))) := ⟨fun k hk W => kproduct_any (rowV rho k) S (fun j _ i _ => rowV_lt rho k j i) hSl W⟩
 have HA : Shh (∀ k : Nat, k < 3 → ∀ W, Calls Tryd.prog 42 #[.agg (pc (prN (rowV rho k) S 3)).toArray, .agg (pc (E k)).toArray] W (PolyIs W (T k))) := ⟨fun k hk W => by
  have h : T k = addN (prN (rowV rho k) S 3) (E k) := by rw [hT, hS, hE, hrho]; rfl
  rw [h]
  exact Add_any _ _ (fun i _ => prN_lt _ _ _ _) (hEl k hk) W⟩
 have HPT : Shh (∀ W, Calls Tryd.prog 45 #[.agg (vc T).toArray] W (OwnIs W (pkN T 3))) := ⟨fun W => kpacked_any T (fun k _ i _ => by rw [hT]; exact add_lt _ _ _) W⟩
 have HPS : Shh (∀ W, Calls Tryd.prog 45 #[.agg (vc S).toArray] W (OwnIs W (pkN S 3))) := ⟨fun W => kpacked_any S hSl W⟩
 have HPL : Shh ((pkN T 3).length = 1152 ∧ (pkN S 3).length = 1152 ∧ rho.length = 32) := ⟨pkN_length _ 3, pkN_length _ 3, by rw [hrho]; exact rhoB_length d⟩
 rw [← hrho, ← hS, ← hT, ← hok]
 generalize pkN T 3 = PTB at *
 generalize pkN S 3 = PSB at *
 generalize noisV sig 0 = NS0 at *
 generalize noisV sig 3 = NS3 at *
 clear hrho hsig hS hE hT hSl hEl hok hSD
 generalize hN : w.heap.size = N at *
 have hN0 := Shh.mk hN
 obtain ⟨W0, hW0⟩ : ∃ W0, W0 = w.alloc (.cells (Lib.byteCells d).toArray 22) := ⟨_, rfl⟩
 have HL0 : Shh (Row W0 N 22 (Lib.byteCells d) ∧ Below N w W0 ∧ W0.heap.size = N + 1 ∧ KVars W0 ∧ 0 < N ∧ d.length = 32) := by
  rw [hW0]
  refine ⟨Row.new_ hN.symm rfl, ?_, by rw [asz, hN], hv.step (bel1 _ _), hpos, hd⟩
  rw [← hN]
  exact bel1 _ _
 clear hv hpos hd hN
 go_enter Tryd.func20, Tryd.ntmps20
 go_wp2_with fail
 rw [← hW0]
 rw [show w.heap.size = N from hN0.out]
 clear hW0
 go_at_call 39
 have HQ : Shh (PartsO ((W0.alloc (.cells #[.int .u8 3] 5)).alloc (.cells #[.slice (some ⟨N, 0, none⟩) 32 32, .slice (some ⟨N + 1, 0, none⟩) 1 1] 23)) (N + 1 + 1 + 1) (N + 1 + 1 + 1) (.slice (some ⟨N + 1 + 1, 0, none⟩) 2 2) [d, [UInt8.ofNat 3]] ∧ N + 1 + 1 + 1 ≤ ((W0.alloc (.cells #[.int .u8 3] 5)).alloc (.cells #[.slice (some ⟨N, 0, none⟩) 32 32, .slice (some ⟨N + 1, 0, none⟩) 1 1] 23)).heap.size ∧ KVars ((W0.alloc (.cells #[.int .u8 3] 5)).alloc (.cells #[.slice (some ⟨N, 0, none⟩) 32 32, .slice (some ⟨N + 1, 0, none⟩) 1 1] 23)) ∧ Below N w ((W0.alloc (.cells #[.int .u8 3] 5)).alloc (.cells #[.slice (some ⟨N, 0, none⟩) 32 32, .slice (some ⟨N + 1, 0, none⟩) 1 1] 23))) := by
  obtain ⟨h1, h2, h3, h4, h5, h6⟩ := HL0.out
  have e1 : Sl W0 (N + 1) (.slice (some ⟨N, 0, none⟩) 32 32) d := Sl.of_bytes h1 (Nat.lt_succ_self _) h6 (by decide)
  have e2 : Sl (W0.alloc (.cells #[.int .u8 3] 5)) (N + 1 + 1) (.slice (some ⟨N + 1, 0, none⟩) 1 1) [UInt8.ofNat 3] := bytes_one (i := 3) (by decide) h3.symm
  have b1 := Below.chain (bel1 W0 (.cells #[.int .u8 3] 5)) (bel1 _ (.cells #[.slice (some ⟨N, 0, none⟩) 32 32, .slice (some ⟨N + 1, 0, none⟩) 1 1] 23))
  exact ⟨parts_two (by rw [asz, h3]) ((e1.below ((bel1 _ _).mono (by omega))).more (by omega)) e2, by rw [asz, asz, h3]; exact Nat.le_refl _, h4.step b1, h2.trans (b1.mono (by omega))⟩
 refine (HC.out _ (N + 1 + 1 + 1) _ HQ.out.1 HQ.out.2.1 HQ.out.2.2.1).mono ?_
 rintro e w4 ⟨rfl, b4⟩
 have HI : Shh (KVars w4 ∧ 0 < N ∧ Below N w w4 ∧ N ≤ w4.heap.size) := by
  obtain ⟨_, h2, h3, h4⟩ := HQ.out
  have := b4.size
  exact ⟨h3.step b4, HL0.out.2.2.2.2.1, h4.trans (b4.mono (by omega)), by omega⟩
 clear b4 HQ HC HL0
 go_wp2_with (refine wl_new64 4 SD HSD.out rfl rfl rfl rfl rfl rfl rfl rfl ?_)
 intro G4 w5 hG4 r5 b5
 simp only [Act.put, arr9, hd9, tl9]
 have HJ : Shh (Row w5 G4 59 (Lib.byteCells SD) ∧ KVars w5 ∧ 0 < N ∧ Below N w w5 ∧ N ≤ G4) := by
  obtain ⟨h1, h2, h3, h4⟩ := HI.out
  have := hG4.out
  exact ⟨r5, h1.step b5, h2, h3.trans (b5.mono h4), by omega⟩
 clear r5 b5 hG4 HI
 go_wp2
 refine wp_region_held_drew (S := fun w' => True) (by kernel_rfl) trivial (fun hS => ?_)
 clear hS
 obtain ⟨X, hX⟩ : ∃ V, V = World.drew w5 := ⟨_, rfl⟩
 rw [← hX]
 have HI : Shh (Sl X (G4 + 1) (.slice (some ⟨G4, 0, none⟩) 32 64) rho ∧ Sl X (G4 + 1) (.slice (some ⟨G4, 32, none⟩) 32 32) sig ∧ KVars X ∧ 0 < N ∧ Below N w X ∧ N ≤ G4 ∧ G4 < X.heap.size) := by
  obtain ⟨h1, h2, h3, h4, h5⟩ := HJ.out
  rw [hX, HRS.out.1, HRS.out.2]
  exact ⟨row_part h1.drew (by rw [HSD.out]; decide) (by decide) (by decide), row_part h1.drew (by rw [HSD.out]; decide) (by decide) (by decide), h2.drew, h3, h4.drew, h5, h1.lt⟩
 clear hX HJ HRS
 refine hdv 0 15 (.slice (some ⟨G4, 0, none⟩) 32 64) (by rfl) (fun w hS => run_slice_op (by first | exact ⟨rfl, rfl⟩ | (constructor <;> kernel_rfl)) (slice24_to G4 0 32 (by decide) w)) (trivial) ?_
 refine hdv 1 16 (.slice (some ⟨G4, 32, none⟩) 32 32) (by rfl) (fun w hS => run_slice_op_lo (by first | exact ⟨rfl, rfl⟩ | (constructor <;> kernel_rfl)) (slice24_from G4 0 32 (by decide) w)) (trivial) ?_
 refine hdv0 2 5 (.slice (some ⟨G4, 0, none⟩) 32 64) (by rfl) (trivial) ?_
 refine hdv0 3 6 (.slice (some ⟨G4, 32, none⟩) 32 32) (by rfl) (trivial) ?_
 refine wpAnyH_done (by kernel_rfl) ?_ _
 clear HSD
 go_wp2_with (go_at_call 41; refine ((HN.out _ (G4 + 1) _ HI.out.2.1 HI.out.2.2.2.2.2.2 HI.out.2.2.1).1).mono ?_)
 rintro e w6 ⟨rfl, b6⟩
 have HJ : Shh (Sl w6 (G4 + 1) (.slice (some ⟨G4, 0, none⟩) 32 64) rho ∧ Sl w6 (G4 + 1) (.slice (some ⟨G4, 32, none⟩) 32 32) sig ∧ KVars w6 ∧ 0 < N ∧ Below N w w6 ∧ N ≤ G4 ∧ G4 < w6.heap.size) := by
  obtain ⟨h1, h2, h3, h4, h5, h6, h7⟩ := HI.out
  have := b6.size
  exact ⟨h1.below (b6.mono h7), h2.below (b6.mono h7), h3.step b6, h4, h5.trans (b6.mono (by omega)), h6, by omega⟩
 clear b6 HI
 go_wp2_with (go_at_call 40; refine (HT0.out w6).mono ?_)
 rintro e w7 ⟨rfl, b6⟩
 have HI : Shh (Sl w7 (G4 + 1) (.slice (some ⟨G4, 0, none⟩) 32 64) rho ∧ Sl w7 (G4 + 1) (.slice (some ⟨G4, 32, none⟩) 32 32) sig ∧ KVars w7 ∧ 0 < N ∧ Below N w w7 ∧ N ≤ G4 ∧ G4 < w7.heap.size) := by
  obtain ⟨h1, h2, h3, h4, h5, h6, h7⟩ := HJ.out
  have := b6.size
  exact ⟨h1.below (b6.mono h7), h2.below (b6.mono h7), h3.step b6, h4, h5.trans (b6.mono (by omega)), h6, by omega⟩
 clear b6 HJ HT0
 go_wp2_with (refine wl_newV 7 S rfl rfl rfl rfl rfl rfl rfl rfl ?_)
 intro G7 w8 hG7 r7 b6
 simp only [Act.put, arr9, hd9, tl9]
 have HJ : Shh (Sl w8 (G4 + 1) (.slice (some ⟨G4, 0, none⟩) 32 64) rho ∧ Sl w8 (G4 + 1) (.slice (some ⟨G4, 32, none⟩) 32 32) sig ∧ KVars w8 ∧ 0 < N ∧ Below N w w8 ∧ N ≤ G4 ∧ Row w8 G7 64 (vc S) ∧ G4 < G7) := by
  obtain ⟨h1, h2, h3, h4, h5, h6, h7⟩ := HI.out
  have := hG7.out
  exact ⟨h1.below (b6.mono h7), h2.below (b6.mono h7), h3.step b6, h4, h5.trans (b6.mono (by omega)), h6, r7, by omega⟩
 clear b6 r7 hG7 HI
 go_wp2_with (go_at_call 41; refine ((HN.out _ (G4 + 1) _ HJ.out.2.1 (by have := HJ.out.2.2.2.2.2.2.1.lt; have := HJ.out.2.2.2.2.2.2.2; omega) HJ.out.2.2.1).2).mono ?_)
 rintro e w9 ⟨rfl, b6⟩
 have HI : Shh (Sl w9 (G4 + 1) (.slice (some ⟨G4, 0, none⟩) 32 64) rho ∧ KVars w9 ∧ 0 < N ∧ Below N w w9 ∧ N ≤ G4 ∧ Row w9 G7 64 (vc S) ∧ G4 < G7) := by
  obtain ⟨h1, h2, h3, h4, h5, h6, h7, h8⟩ := HJ.out
  have := h7.lt
  exact ⟨h1.below (b6.mono (by omega)), h3.step b6, h4, h5.trans (b6.mono (by omega)), h6, h7.go b6, h8⟩
 clear b6 HJ HN
 go_wp2_with (go_at_call 40; refine (HT3.out w9).mono ?_)
 rintro e w10 ⟨rfl, b6⟩
 have HJ : Shh (Sl w10 (G4 + 1) (.slice (some ⟨G4, 0, none⟩) 32 64) rho ∧ KVars w10 ∧ 0 < N ∧ Below N w w10 ∧ N ≤ G4 ∧ Row w10 G7 64 (vc S) ∧ G4 < G7) := by
  obtain ⟨h1, h3, h4, h5, h6, h7, h8⟩ := HI.out
  have := h7.lt
  exact ⟨h1.below (b6.mono (by omega)), h3.step b6, h4, h5.trans (b6.mono (by omega)), h6, h7.go b6, h8⟩
 clear b6 HI HT3
 go_wp2_with (refine wl_newV 8 E rfl rfl rfl rfl rfl rfl rfl rfl ?_)
 intro G8 w11 hG8 r8 b6
 simp only [Act.put, arr9, hd9, tl9]
 have HI : Shh (Sl w11 (G4 + 1) (.slice (some ⟨G4, 0, none⟩) 32 64) rho ∧ KVars w11 ∧ 0 < N ∧ Below N w w11 ∧ N ≤ G4 ∧ Row w11 G7 64 (vc S) ∧ Row w11 G8 64 (vc E) ∧ G4 < G7 ∧ G7 < G8) := by
  obtain ⟨h1, h3, h4, h5, h6, h7, h8⟩ := HJ.out
  have := h7.lt
  have := hG8.out
  exact ⟨h1.below (b6.mono (by omega)), h3.step b6, h4, h5.trans (b6.mono (by omega)), h6, h7.go b6, r8, h8, by omega⟩
 clear b6 r8 hG8 HJ
 go_wp2_with (refine wl_zeroV 9 rfl rfl rfl ?_)
 intro G9 w12 hG9 r9 b6
 simp only [Act.put, arr9, hd9, tl9]
 have HJ : Shh (Sl w12 (G4 + 1) (.slice (some ⟨G4, 0, none⟩) 32 64) rho ∧ KVars w12 ∧ 0 < N ∧ Below N w w12 ∧ N ≤ G4 ∧ Row w12 G7 64 (vc S) ∧ Row w12 G8 64 (vc E) ∧ Row w12 G9 64 (vc zV) ∧ G4 < G7 ∧ G7 < G8 ∧ G8 < G9) := by
  obtain ⟨h1, h3, h4, h5, h6, h7, h8, h9, h10⟩ := HI.out
  have := h7.lt
  have := h8.lt
  have := hG9.out
  exact ⟨h1.below (b6.mono (by omega)), h3.step b6, h4, h5.trans (b6.mono (by omega)), h6, h7.go b6, h8.go b6, r9, h9, h10, by omega⟩
 clear b6 r9 hG9 HI
 go_wp2
 go_loopw [23] (fun cc wr => ∃ k : Nat, k ≤ 3 ∧ cc = .int .i64 (k : Int) ∧ (∀ j, j < k → okR j) ∧ Shh (Sl wr (G4 + 1) (.slice (some ⟨G4, 0, none⟩) 32 64) rho ∧ KVars wr ∧ 0 < N ∧ Below N w wr ∧ N ≤ G4 ∧ Row wr G7 64 (vc S) ∧ Row wr G8 64 (vc E) ∧ Row wr G9 64 (vc (hfV T zV k)) ∧ G4 < G7 ∧ G7 < G8 ∧ G8 < G9)) (fun cc _ => 3 - (intOf cc).toNat)
 case atStart => exact ⟨0, Nat.zero_le _, rfl, fun j hj => absurd hj (Nat.not_lt_zero j), ⟨by rw [hfV_zero]; exact HJ.out⟩⟩
 case round =>
  clear HJ
  obtain ⟨k, hk, rfl, hokk, HI⟩ := hrel
  by_cases hlt : k < 3
  ·have hlt2 : (k : Int) < 3 := by omega
   obtain ⟨O, hO⟩ : ∃ O, Shh (O = 256 * k) := ⟨_, ⟨rfl⟩⟩
   have HNX := Shh.mk (hfV_next T zV k)
   obtain ⟨RV, HR1, HP1, HA1⟩ : ∃ (RV : Nat → Nat → Nat), Shh (∀ W B' u, Sl W B' u rho → B' ≤ W.heap.size → KVars W → Calls Tryd.prog 44 #[u, .int .i64 (k : Int)] W (OrPan (okR k) W (VecIs W RV))) ∧ Shh (∀ W, Calls Tryd.prog 43 #[.agg (vc RV).toArray, .agg (vc S).toArray] W (PolyIs W (prN RV S 3))) ∧ Shh (∀ W, Calls Tryd.prog 42 #[.agg (pc (prN RV S 3)).toArray, .agg (pc (E k)).toArray] W (PolyIs W (T k))) := ⟨rowV rho k, ⟨HR.out k hlt⟩, ⟨HP.out k hlt⟩, ⟨HA.out k hlt⟩⟩
   generalize prN RV S 3 = pk at *
   go_wp2
   refine wp_region_held_drew (S := fun w' => Row w' G7 64 (vc S) ∧ Row w' G8 64 (vc E)) (by kernel_rfl) ⟨HI.out.2.2.2.2.2.1.drew, HI.out.2.2.2.2.2.2.1.drew⟩ (fun hS => ?_)
   clear hS
   obtain ⟨X, hX⟩ : ∃ V, V = World.drew wr := ⟨_, rfl⟩
   rw [← hX]
   have HX : Shh (Sl X (G4 + 1) (.slice (some ⟨G4, 0, none⟩) 32 64) rho ∧ KVars X ∧ 0 < N ∧ Below N w X ∧ N ≤ G4 ∧ Row X G7 64 (vc S) ∧ Row X G8 64 (vc E) ∧ Row X G9 64 (vc (hfV T zV k)) ∧ G4 < G7 ∧ G7 < G8 ∧ G8 < G9) := by
    obtain ⟨h1, h2, h3, h4, h5, h6, h7, h8, h9⟩ := HI.out
    rw [hX]
    exact ⟨h1.drew, h2.drew, h3, h4.drew, h5, h6.drew, h7.drew, h8.drew, h9⟩
   have q1 : Row X G7 64 (vc S) := HX.out.2.2.2.2.2.1
   have q2 : Row X G8 64 (vc E) := HX.out.2.2.2.2.2.2.1
   clear hX HI
   refine hdv0 0 26 (.int .i64 (k : Int)) (by rfl) (⟨q1, q2⟩) ?_
   refine hdv0 1 27 (.slice (some ⟨G4, 0, none⟩) 32 64) (by rfl) (⟨q1, q2⟩) ?_
   refine hdv0 2 28 (.int .i64 (k : Int)) (by rfl) (⟨q1, q2⟩) ?_
   refine hdv0 6 32 (.int .i64 (k : Int)) (by rfl) (⟨q1, q2⟩) ?_
   refine hdv 7 33 (.pointer (some ⟨G8, O, none⟩)) (by rfl) (fun w hS => run_atV hlt hO.out rfl rfl rfl) (⟨q1, q2⟩) ?_
   refine held_load 4 64 (.tmp 7) (some 30) (by kernel_rfl) (by rfl) (by kernel_rfl) G7 0 (by kernel_rfl) (vc S) _ (fun w h => h.1.range) Tryd.underlying64 rfl (info_vec.trans (size_vec _)) (fun _ _ _ _ h => h) (⟨q1, q2⟩) ?_
   simp only [Act.put, arr9, hd9, tl9]
   refine held_load 8 62 (.tmp 33) (some 34) (by kernel_rfl) (by rfl) (by kernel_rfl) G8 O (by kernel_rfl) (pc (E k)) _ (fun w h => by have hm := h.2.mid O 256; rw [hO.out, vc_piece E hlt, ← hO.out] at hm; exact hm) Tryd.underlying62 rfl (info_poly.trans (size_poly _)) (fun _ _ _ _ h => h) (⟨q1, q2⟩) ?_
   simp only [Act.put, arr9, hd9, tl9]
   refine held_one 3 (by kernel_rfl) ?_
   by_cases hok : okR k
   case neg =>
    refine step_panic 3 _ _ (some 29) 44 #[.slice (some ⟨G4, 0, none⟩) 32 64, .int .i64 (k : Int)] (by rfl) (by kernel_rfl) (by first | kernel_rfl | go_simp) ?_
    refine (HR1.out X (G4 + 1) _ HX.out.1 (by have := q1.lt; have := HX.out.2.2.2.2.2.2.2.2.1; omega) HX.out.2.1).mono ?_
    rintro e Y ⟨_, h4⟩
    obtain ⟨rfl, b4⟩ := h4 hok
    have hb4 : Below N w Y := HX.out.2.2.2.1.trans (b4.mono (by have := q1.lt; have := HX.out.2.2.2.2.2.2.2.2.1; have := HX.out.2.2.2.2.1; omega))
    refine ⟨_, rfl, ?_⟩
    go_wp2
    exact ⟨rfl, fun h => absurd (h k hlt) hok, fun _ => ⟨rfl, by rw [hN0.out]; exact hb4⟩⟩
   refine step_call 3 _ _ (some 29) 44 #[.slice (some ⟨G4, 0, none⟩) 32 64, .int .i64 (k : Int)] (by rfl) (by kernel_rfl) (by first | kernel_rfl | go_simp) ?_
   refine (HR1.out X (G4 + 1) _ HX.out.1 (by have := q1.lt; have := HX.out.2.2.2.2.2.2.2.2.1; omega) HX.out.2.1).mono ?_
   rintro e Y ⟨h4, _⟩
   obtain ⟨rfl, b4⟩ := h4 hok
   have HY : Shh (Sl Y (G4 + 1) (.slice (some ⟨G4, 0, none⟩) 32 64) rho ∧ KVars Y ∧ 0 < N ∧ Below N w Y ∧ N ≤ G4 ∧ Row Y G7 64 (vc S) ∧ Row Y G8 64 (vc E) ∧ Row Y G9 64 (vc (hfV T zV k)) ∧ G4 < G7 ∧ G7 < G8 ∧ G8 < G9) := by
    obtain ⟨h1, h2, h3, h4, h5, h6, h7, h8, h9, h10, h11⟩ := HX.out
    have := h6.lt
    exact ⟨h1.below (b4.mono (by omega)), h2.step b4, h3, h4.trans (b4.mono (by omega)), h5, h6.go b4, h7.go b4, h8.go b4, h9, h10, h11⟩
   clear b4 h4 HX q1 q2
   have q1 : Row Y G7 64 (vc S) := HY.out.2.2.2.2.2.1
   have q2 : Row Y G8 64 (vc E) := HY.out.2.2.2.2.2.2.1
   refine ⟨_, rfl, ⟨q1, q2⟩, ?_⟩
   simp only [Act.put, arr9, hd9, tl9]
   refine held_one 5 (by kernel_rfl) ?_
   refine step_call 5 _ _ (some 31) 43 #[.agg (vc RV).toArray, .agg (vc S).toArray] (by rfl) (by kernel_rfl) (by first | kernel_rfl | go_simp) ?_
   refine (HP1.out Y).mono ?_
   rintro e Y1 ⟨rfl, b1⟩
   have bx : Below Y.heap.size Y Y1 := b1
   clear b1
   have b_Y := bx
   have m_Y1 : Y.heap.size ≤ Y1.heap.size := bx.size
   clear bx
   refine ⟨_, rfl, ⟨(q1.go b_Y), (q2.go b_Y)⟩, ?_⟩
   simp only [Act.put, arr9, hd9, tl9]
   refine held_one 9 (by kernel_rfl) ?_
   refine step_call 9 _ _ (some 35) 42 #[.agg (pc pk).toArray, .agg (pc (E k)).toArray] (by rfl) (by kernel_rfl) (by first | kernel_rfl | go_simp) ?_
   refine (HA1.out Y1).mono ?_
   rintro e Y2 ⟨rfl, b1⟩
   have bx : Below Y1.heap.size Y1 Y2 := b1
   clear b1
   replace b_Y := Below.chain b_Y bx
   have b_Y1 := bx
   have m_Y2 : Y1.heap.size ≤ Y2.heap.size := bx.size
   clear bx
   refine ⟨_, rfl, ⟨(q1.go b_Y), (q2.go b_Y)⟩, ?_⟩
   simp only [Act.put, arr9, hd9, tl9]
   refine hdv 10 36 (.pointer (some ⟨G9, O, none⟩)) (by rfl) (fun w hS => run_atV hlt hO.out rfl rfl rfl) (⟨(q1.go b_Y), (q2.go b_Y)⟩) ?_
   have HZ : Shh (Sl Y2 (G4 + 1) (.slice (some ⟨G4, 0, none⟩) 32 64) rho ∧ KVars Y2 ∧ 0 < N ∧ Below N w Y2 ∧ N ≤ G4 ∧ Row Y2 G7 64 (vc S) ∧ Row Y2 G8 64 (vc E) ∧ Row Y2 G9 64 (vc (hfV T zV k)) ∧ G4 < G7 ∧ G7 < G8 ∧ G8 < G9) := by
    obtain ⟨h1, h2, h3, h4, h5, h6, h7, h8, h9, h10, h11⟩ := HY.out
    have := h6.lt
    exact ⟨h1.below (b_Y.mono (by omega)), h2.step b_Y, h3, h4.trans (b_Y.mono (by omega)), h5, h6.go b_Y, h7.go b_Y, h8.go b_Y, h9, h10, h11⟩
   clear b_Y q1 q2 HY
   refine held_one 11 (by kernel_rfl) ?_
   refine step_storeE (q := T k) (g := G9) 11 (.tmp 36) (.tmp 35) (by rfl) (by kernel_rfl) hlt hO.out (by kernel_rfl) (by kernel_rfl) HZ.out.2.2.2.2.2.2.2.1 ?_
   intro Z r9 b9 z9
   rw [HNX.out] at r9
   have HZ2 : Shh (Sl Z (G4 + 1) (.slice (some ⟨G4, 0, none⟩) 32 64) rho ∧ KVars Z ∧ 0 < N ∧ Below N w Z ∧ N ≤ G4 ∧ Row Z G7 64 (vc S) ∧ Row Z G8 64 (vc E) ∧ Row Z G9 64 (vc (hfV T zV (k + 1))) ∧ G4 < G7 ∧ G7 < G8 ∧ G8 < G9) := by
    obtain ⟨h1, h2, h3, h4, h5, h6, h7, h8, h9, h10, h11⟩ := HZ.out
    have hb := b9.under (Nat.le_of_lt h8.lt) (Nat.le_refl _)
    exact ⟨h1.below (hb.mono (by omega)), h2.but b9 (by omega), h3, h4.trans (hb.mono (by omega)), h5, h6.below hb (by omega), h7.below hb h11, r9, h9, h10, h11⟩
   refine ⟨⟨HZ2.out.2.2.2.2.2.1, HZ2.out.2.2.2.2.2.2.1⟩, ?_⟩
   clear r9 b9 z9 HZ
   refine wpAnyH_done (by kernel_rfl) ?_ _
   go_wp2
   go_roundw
   case rel => exact ⟨k + 1, by omega, by go_num, fun j hj => by
    by_cases h : j = k
    ·rw [h]; exact hok
    ·exact hokk j (by omega), HZ2⟩
   case measure => simp [intOf]; omega
  ·have HL : Shh (vc (hfV T zV k) = vc T) := ⟨by rw [show k = 3 by omega]; exact hfV_all _ _⟩
   rw [HL.out] at HI
   have HOK : Shh (∀ i : Nat, i < 3 → okR i) := ⟨fun i hi => hokk i (by omega)⟩
   have hlt2 : ¬ (k : Int) < 3 := by omega
   clear HL HR HP HA hokk
   go_wp2
   refine wp_region_held_drew (S := fun w' => Row w' G7 64 (vc S) ∧ Row w' G9 64 (vc T)) (by kernel_rfl) ⟨HI.out.2.2.2.2.2.1.drew, HI.out.2.2.2.2.2.2.2.1.drew⟩ (fun hS => ?_)
   clear hS
   obtain ⟨X, hX⟩ : ∃ V, V = World.drew wr := ⟨_, rfl⟩
   rw [← hX]
   have HX : Shh (Sl X (G4 + 1) (.slice (some ⟨G4, 0, none⟩) 32 64) rho ∧ Below N w X ∧ Row X G7 64 (vc S) ∧ Row X G9 64 (vc T) ∧ G4 < G7 ∧ N ≤ G4) := by
    obtain ⟨h1, h2, h3, h4, h5, h6, h7, h8, h9⟩ := HI.out
    rw [hX]
    exact ⟨h1.drew, h4.drew, h6.drew, h8.drew, h9.1, h5⟩
   clear hX HI
   refine hdv0 2 40 (.slice (some ⟨G4, 0, none⟩) 32 64) (by rfl) (⟨HX.out.2.2.1, HX.out.2.2.2.1⟩) ?_
   refine held_load 0 64 (.tmp 9) (some 38) (by kernel_rfl) (by rfl) (by kernel_rfl) G9 0 (by kernel_rfl) (vc T) _ (fun w h => h.2.range) Tryd.underlying64 rfl (info_vec.trans (size_vec _)) (fun _ _ _ _ h => h) (⟨HX.out.2.2.1, HX.out.2.2.2.1⟩) ?_
   simp only [Act.put, arr9, hd9, tl9]
   refine held_load 5 64 (.tmp 7) (some 43) (by kernel_rfl) (by rfl) (by kernel_rfl) G7 0 (by kernel_rfl) (vc S) _ (fun w h => h.1.range) Tryd.underlying64 rfl (info_vec.trans (size_vec _)) (fun _ _ _ _ h => h) (⟨HX.out.2.2.1, HX.out.2.2.2.1⟩) ?_
   simp only [Act.put, arr9, hd9, tl9]
   refine held_one 1 (by kernel_rfl) ?_
   refine step_call 1 _ _ (some 39) 45 #[.agg (vc T).toArray] (by rfl) (by kernel_rfl) (by first | kernel_rfl | go_simp) ?_
   refine (HPT.out X).mono ?_
   rintro e Y ⟨u, rfl, hu, bu⟩
   obtain ⟨g, cap, rfl⟩ := own_some hu (by rw [HPL.out.1]; decide)
   have HY : Shh (Sl Y Y.heap.size (.slice (some ⟨g, 0, none⟩) PTB.length cap) PTB ∧ Sl Y Y.heap.size (.slice (some ⟨G4, 0, none⟩) 32 64) rho ∧ Below N w Y ∧ Row Y G7 64 (vc S) ∧ Row Y G9 64 (vc T) ∧ G4 < G7 ∧ N ≤ G4) := by
    obtain ⟨h1, h2, h3, h4, h5, h6⟩ := HX.out
    have := h3.lt
    have := bu.size
    exact ⟨Sl.of_own hu, (h1.below (bu.mono (by omega))).more (by omega), h2.trans (bu.mono (by omega)), h3.go bu, h4.go bu, h5, h6⟩
   clear hu bu HX HPT
   refine ⟨_, rfl, ⟨HY.out.2.2.2.1, HY.out.2.2.2.2.1⟩, ?_⟩
   simp only [Act.put, arr9, hd9, tl9]
   refine held_one 3 (by kernel_rfl) ?_
   have HZ : Shh (PartsO (Y.alloc (.cells #[.slice (some ⟨g, 0, none⟩) PTB.length cap, .slice (some ⟨G4, 0, none⟩) 32 64] 23)) (Y.heap.size + 1) (Y.heap.size + 1) (.slice (some ⟨Y.heap.size, 0, none⟩) 2 2) [PTB, rho] ∧ Below N w (Y.alloc (.cells #[.slice (some ⟨g, 0, none⟩) PTB.length cap, .slice (some ⟨G4, 0, none⟩) 32 64] 23)) ∧ (Row (Y.alloc (.cells #[.slice (some ⟨g, 0, none⟩) PTB.length cap, .slice (some ⟨G4, 0, none⟩) 32 64] 23)) G7 64 (vc S) ∧ Row (Y.alloc (.cells #[.slice (some ⟨g, 0, none⟩) PTB.length cap, .slice (some ⟨G4, 0, none⟩) 32 64] 23)) G9 64 (vc T)) ∧ N ≤ G4 ∧ G4 < G7 ∧ Y.heap.size + 1 ≤ (Y.alloc (.cells #[.slice (some ⟨g, 0, none⟩) PTB.length cap, .slice (some ⟨G4, 0, none⟩) 32 64] 23)).heap.size) := by
    obtain ⟨h1, h2, h3, h4, h5, h6, h7⟩ := HY.out
    have := h4.lt
    exact ⟨parts_two rfl h1 h2, h3.trans ((bel1 _ _).mono (by omega)), ⟨h4.go (bel1 _ _), h5.go (bel1 _ _)⟩, h7, h6, by rw [asz]; exact Nat.le_refl _⟩
   refine step_value 3 _ _ (some 41) (.slice (some ⟨Y.heap.size, 0, none⟩) 2 2) (Y.alloc (.cells #[.slice (some ⟨g, 0, none⟩) PTB.length cap, .slice (some ⟨G4, 0, none⟩) 32 64] 23)) (by rfl) (by kernel_rfl) (by first | kernel_rfl | go_simp) HZ.out.2.2.1 ?_
   simp only [Act.put, arr9, hd9, tl9]
   clear HY
   refine held_one 4 (by kernel_rfl) ?_
   refine step_call 4 _ _ (some 42) 22 #[.slice (some ⟨Y.heap.size, 0, none⟩) 2 2] (by rfl) (by kernel_rfl) (by first | kernel_rfl | go_simp) ?_
   refine (join_any (Y.heap.size + 1) (Y.heap.size + 1) _ [PTB, rho] _ HZ.out.1 HZ.out.2.2.2.2.2 (by simp [HPL.out.1, HPL.out.2.2]) (by simp)).mono ?_
   rintro e Z ⟨u2, rfl, hu, bu⟩
   have HY : Shh (Z.ownsRow N 5 1 u2 (PTB ++ rho).length (Lib.byteCells (PTB ++ rho)) ∧ Below N w Z ∧ (Row Z G7 64 (vc S) ∧ Row Z G9 64 (vc T)) ∧ N ≤ G4 ∧ G4 < G7) := by
    obtain ⟨h1, h2, ⟨h3, h4⟩, h5, h6, h7⟩ := HZ.out
    have := h3.lt
    refine ⟨?_, h2.trans (bu.mono (by omega)), ⟨h3.go bu, h4.go bu⟩, h5, h6⟩
    rw [show [PTB, rho].flatten = PTB ++ rho by simp] at hu
    exact kown_mono hu (by omega)
   clear hu bu HZ
   refine ⟨_, rfl, HY.out.2.2.1, ?_⟩
   simp only [Act.put, arr9, hd9, tl9]
   refine held_one 6 (by kernel_rfl) ?_
   refine step_call 6 _ _ (some 44) 45 #[.agg (vc S).toArray] (by rfl) (by kernel_rfl) (by first | kernel_rfl | go_simp) ?_
   refine (HPS.out Z).mono ?_
   rintro e X ⟨u3, rfl, hu, bu⟩
   have HX : Shh (X.ownsRow N 5 1 u2 (PTB ++ rho).length (Lib.byteCells (PTB ++ rho)) ∧ X.ownsRow N 5 1 u3 PSB.length (Lib.byteCells PSB) ∧ Below N w X ∧ (Row X G7 64 (vc S) ∧ Row X G9 64 (vc T))) := by
    obtain ⟨h1, h2, ⟨h3, h4⟩, h5, h6⟩ := HY.out
    have := h3.lt
    exact ⟨own_below h1 bu, kown_mono hu (by omega), h2.trans (bu.mono (by omega)), h3.go bu, h4.go bu⟩
   clear hu bu HY
   refine ⟨_, rfl, HX.out.2.2.2, ?_⟩
   simp only [Act.put, arr9, hd9, tl9]
   refine hdv0 7 2 u2 (by rfl) HX.out.2.2.2 ?_
   refine hdv0 8 3 u3 (by rfl) HX.out.2.2.2 ?_
   refine wpAnyH_done (by kernel_rfl) ?_ _
   go_wp2
   go_ret2
   exact ⟨fun _ => ⟨u2, u3, rfl, HX.out.1, HX.out.2.1, HX.out.2.2.1⟩, fun h => absurd HOK.out h⟩
end Go.Proofs.YtbjpbeplpljieaaDoor
