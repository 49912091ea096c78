import Derived.Test.YtbjpbeplpljieaaDoorZI
/-
 WORDS for drawn regions that make memory; encrypted.
-/
namespace Go.Proofs.YtbjpbeplpljieaaDoor
open Go.RowKit
set_option maxRecDepth 100000
section
variable {md : Region.Mode} {ops : Array Oper} {Q : Exit → Act → World → Prop} {S : World → Prop} {fuel : Nat} {listed : Array Bool} {a : Act} {w : World}
theorem step_zeroV (i d : Nat) (hop : (ops[i]?).map (fun o => (o.op, o.type, o.dst)) = some (.alloc 64, 0, some d)) (hw : (ops[i]?).map (fun o => Region.wanted o (yielded ops a.tmps)) = some true)
  (h : ∀ g w2, Shh (g = w.heap.size) → Row w2 g 64 (vc zV) → Below w.heap.size w w2 → S w2 ∧ wpAnyH Tryd.prog md ops Q S fuel (listed.setIfInBounds i true) (a.put (some d) (.pointer (some ⟨g, 0, none⟩))) w2) : HStep Tryd.prog md ops Q S fuel listed a w i := by
 have h1 := h w.heap.size (w.alloc (.cells (vc zV).toArray 64)) ⟨rfl⟩ (Row.new_ rfl rfl) (bel1 _ _)
 exact step_value i _ _ (some d) (.pointer (some ⟨w.heap.size, 0, none⟩)) (w.alloc (.cells (vc zV).toArray 64)) hop hw (run_allocV rfl) h1.1 h1.2
theorem step_zeroP (i d : Nat) (hop : (ops[i]?).map (fun o => (o.op, o.type, o.dst)) = some (.alloc 62, 0, some d)) (hw : (ops[i]?).map (fun o => Region.wanted o (yielded ops a.tmps)) = some true)
  (h : ∀ g w2, Shh (g = w.heap.size) → Row w2 g 62 (pc fun _ => 0) → Below w.heap.size w w2 → S w2 ∧ wpAnyH Tryd.prog md ops Q S fuel (listed.setIfInBounds i true) (a.put (some d) (.pointer (some ⟨g, 0, none⟩))) w2) : HStep Tryd.prog md ops Q S fuel listed a w i := by
 have h1 := h w.heap.size (w.alloc (.cells (pc fun _ => 0).toArray 62)) ⟨rfl⟩ (Row.new_ rfl rfl) (bel1 _ _)
 exact step_value i _ _ (some d) (.pointer (some ⟨w.heap.size, 0, none⟩)) (w.alloc (.cells (pc fun _ => 0).toArray 62)) hop hw (run_allocP rfl) h1.1 h1.2
theorem step_zero32 (i d : Nat) (hop : (ops[i]?).map (fun o => (o.op, o.type, o.dst)) = some (.alloc 22, 0, some d)) (hw : (ops[i]?).map (fun o => Region.wanted o (yielded ops a.tmps)) = some true)
  (h : ∀ g w2, Shh (g = w.heap.size) → Row w2 g 22 (Lib.byteCells z32) → Below w.heap.size w w2 → S w2 ∧ wpAnyH Tryd.prog md ops Q S fuel (listed.setIfInBounds i true) (a.put (some d) (.pointer (some ⟨g, 0, none⟩))) w2) : HStep Tryd.prog md ops Q S fuel listed a w i := by
 have h1 := h w.heap.size (w.alloc (.cells (Lib.byteCells z32).toArray 22)) ⟨rfl⟩ (Row.new_ rfl rfl) (bel1 _ _)
 exact step_value i _ _ (some d) (.pointer (some ⟨w.heap.size, 0, none⟩)) (w.alloc (.cells (Lib.byteCells z32).toArray 22)) hop hw (run_alloc32 rfl) h1.1 h1.2
end
theorem run_cutFrom (A : Option Addr) (n c i : Nat) (hi : i ≤ n) (w : World) : (Instr.sliceAt 23 (.slice A n c) (some (.int .i64 (i : Int))) none none).run Tryd.prog w = .ok (sliced A i n c 1) w := by
 rw [run_sliceAt_slice _ _ _ _ _ _ slice30, run_slice_l w 23 A n c slice30 .i64 (i : Int) (by omega) (by omega), elem30, run_sizeOf_u8, Result.andThen_ok, Int.toNat_natCast]
def yVec (r : List UInt8) : Nat → Nat → Nat := nttV (noisV r 0)
def uEnc (rho r : List UInt8) (k : Nat) : Nat → Nat := addN (invN (prN (colV rho k) (yVec r) 3)) (noisV r 3 k)
def vEnc (t : Nat → Nat → Nat) (m r : List UInt8) : Nat → Nat := addN (invN (prN t (yVec r) 3)) (addN (noiN r 6) (widF 1 m))
def nkN (U : Nat → Nat → Nat) : Nat → List UInt8
 | 0 => []
 | k + 1 => nkN U k ++ narB 10 (U k)
theorem nkN_length (U : Nat → Nat → Nat) : ∀ k, (nkN U k).length = 320 * k
 | 0 => rfl
 | k + 1 => by
  show (nkN U k ++ narB 10 (U k)).length = _
  rw [List.length_append, nkN_length U k, narB_length]
  omega
/-- the ciphertext of m -/
def encE (ek m r : List UInt8) : List UInt8 := nkN (uEnc (ek.drop 1152) r) 3 ++ narB 4 (vEnc (unV (ek.take 1152)) m r)
theorem encE_length (ek m r : List UInt8) : (encE ek m r).length = 1088 := by unfold encE; rw [List.length_append, nkN_length, narB_length]
def colOk (rho : List UInt8) (j : Nat) : Prop := ∀ i : Nat, i < 3 → elOk rho i j
theorem cols_rows (rho : List UInt8) : (∀ j : Nat, j < 3 → colOk rho j) ↔ allOk rho := ⟨fun h i hi j hj => h j hj i hi, fun h j hj i hi => h i hi j hj⟩
theorem uEnc_lt (rho r : List UInt8) (k i : Nat) : uEnc rho r k i < 65536 := add_lt _ _ _
theorem noisV_lt (s : List UInt8) (n k i : Nat) : noisV s n k i < 65536 := noiN_lt s (n + k) i
theorem yVec_lt (r : List UInt8) (k i : Nat) : yVec r k i < 65536 := nttV_lt _ k i
set_option maxHeartbeats 16000000 in
theorem encrypted_any (ek : List UInt8) (hek : ek.length = 1184) (m : List UInt8) (hm : m.length = 32) (r : List UInt8) (hr : r.length = 32) (B : Nat) (v : Value) (w : World) (hs : Sl w B v ek) (hBB : B ≤ w.heap.size) (hv : KVars w) : Calls Tryd.prog 26 #[v, arrV m, arrV r] w (OrPan (allOk (ek.drop 1152)) w (OwnIs w (encE ek m r))) := by
 obtain ⟨i0, hi, hz0, hz1, hz2⟩ := info_parts info_u8
 have HIN : Shh (Tryd.prog.info? 5 = some i0 ∧ i0.zero = some (.int .u8 0) ∧ i0.size = 1 ∧ i0.bytes = 1) := ⟨hi, hz0, hz1, hz2⟩
 clear hi hz0 hz1 hz2
 unfold OwnIs arrV encE
 rw [← cols_rows]
 have hpos := hv.pos
 obtain ⟨rho, hrho⟩ : ∃ S, S = ek.drop 1152 := ⟨_, rfl⟩
 have hrl : rho.length = 32 := by rw [hrho, List.length_drop]; omega
 obtain ⟨ekt, hekt⟩ : ∃ S, S = ek.take 1152 := ⟨_, rfl⟩
 obtain ⟨T, hT⟩ : ∃ S, S = unV ekt := ⟨_, rfl⟩
 obtain ⟨Y, hY⟩ : ∃ S, S = yVec r := ⟨_, rfl⟩
 obtain ⟨E, hE⟩ : ∃ S, S = noisV r 3 := ⟨_, rfl⟩
 obtain ⟨F, hF⟩ : ∃ S, S = noiN r 6 := ⟨_, rfl⟩
 obtain ⟨M, hM⟩ : ∃ S, S = widF 1 m := ⟨_, rfl⟩
 obtain ⟨U, hU⟩ : ∃ S, S = uEnc rho r := ⟨_, rfl⟩
 obtain ⟨okC, hok⟩ : ∃ S, S = colOk rho := ⟨_, rfl⟩
 rw [← hrho, ← hekt, ← hU, ← hok]
 have hTl : ∀ k : Nat, k < 3 → ∀ i, i < 256 → T k i < 65536 := fun k _ i _ => by rw [hT]; exact unV_lt _ _ _
 have hYl : ∀ k : Nat, k < 3 → ∀ i, i < 256 → Y k i < 65536 := fun k _ i _ => by rw [hY]; exact yVec_lt _ _ _
 have hEl : ∀ k : Nat, k < 3 → ∀ i, i < 256 → E k i < 65536 := fun k _ i _ => by rw [hE]; exact noisV_lt _ _ _ _
 have hFl : ∀ i, i < 256 → F i < 65536 := fun i _ => by rw [hF]; exact noiN_lt _ _ _
 have hMl : ∀ i, i < 256 → M i < 65536 := fun i _ => by rw [hM]; exact widF_lt 1 (by decide) _ _
 have hUl : ∀ k : Nat, k < 3 → ∀ i, i < 256 → U k i < 65536 := fun k _ i _ => by rw [hU]; exact uEnc_lt _ _ _ _
 have HUN : Shh (∀ W B' u, Sl W B' u ekt → B' ≤ W.heap.size → Calls Tryd.prog 49 #[u] W (VecIs W T)) := ⟨fun W B' u hs hB => by
  rw [hT]
  exact unpackedK_any ekt (by rw [hekt, List.length_take]; omega) B' u W hs hB⟩
 have HN0 : Shh (∀ W B' u, Sl W B' u r → B' ≤ W.heap.size → KVars W → Calls Tryd.prog 41 #[u, .int .i64 0] W (VecIs W (noisV r 0))) := ⟨fun W B' u hs hB hv => noises_any r 0 (by decide) B' u W hs hB hv⟩
 have HN3 : Shh (∀ W B' u, Sl W B' u r → B' ≤ W.heap.size → KVars W → Calls Tryd.prog 41 #[u, .int .i64 3] W (VecIs W E)) := ⟨fun W B' u hs hB hv => by
  rw [hE]
  exact noises_any r 3 (by decide) B' u W hs hB hv⟩
 have HN6 : Shh (∀ W B' u, Sl W B' u r → B' ≤ W.heap.size → KVars W → Calls Tryd.prog 50 #[u, .int .i64 6] W (PolyIs W F)) := ⟨fun W B' u hs hB hv => by
  rw [hF]
  exact noise_any r 6 (by decide) B' u W hs hB hv⟩
 have HTY : Shh (∀ W, Calls Tryd.prog 40 #[.agg (vc (noisV r 0)).toArray] W (VecIs W Y)) := ⟨fun W => by rw [hY, yVec]; exact transforms_any _ (fun k _ i _ => noisV_lt _ _ _ _) W⟩
 have HCO : Shh (∀ k : Nat, k < 3 → ∀ W B' u, Sl W B' u rho → B' ≤ W.heap.size → KVars W → Calls Tryd.prog 52 #[u, .int .i64 (k : Int)] W (OrPan (okC k) W (VecIs W (colV rho k)))) := ⟨fun k hk W B' u hs hB hv => by
  rw [hok]
  exact column_any rho hrl k hk B' u W hs hB hv⟩
 have HCP : Shh (∀ k : Nat, k < 3 → ∀ W, Calls Tryd.prog 43 #[.agg (vc (colV rho k)).toArray, .agg (vc Y).toArray] W (PolyIs W (prN (colV rho k) Y 3))) := ⟨fun k hk W => kproduct_any (colV rho k) Y (fun j _ i _ => colV_lt rho k j i) hYl W⟩
 have HCI : Shh (∀ k : Nat, k < 3 → ∀ W, Calls Tryd.prog 51 #[.agg (pc (prN (colV rho k) Y 3)).toArray] W (PolyIs W (invN (prN (colV rho k) Y 3)))) := ⟨fun k hk W => Inv_any _ (fun i _ => prN_lt _ _ _ _) W⟩
 have HCA : Shh (∀ k : Nat, k < 3 → ∀ W, Calls Tryd.prog 42 #[.agg (pc (invN (prN (colV rho k) Y 3))).toArray, .agg (pc (E k)).toArray] W (PolyIs W (U k))) := ⟨fun k hk W => by
  have h : U k = addN (invN (prN (colV rho k) Y 3)) (E k) := by rw [hU, hY, hE]; rfl
  rw [h]
  exact Add_any _ _ (fun i _ => inv_lt _ _) (hEl k hk) W⟩
 obtain ⟨p2, hp2⟩ : ∃ S, S = prN T Y 3 := ⟨_, rfl⟩
 have HVP : Shh (∀ W, Calls Tryd.prog 43 #[.agg (vc T).toArray, .agg (vc Y).toArray] W (PolyIs W p2)) := ⟨fun W => by rw [hp2]; exact kproduct_any T Y hTl hYl W⟩
 have HVI : Shh (∀ W, Calls Tryd.prog 51 #[.agg (pc p2).toArray] W (PolyIs W (invN p2))) := ⟨fun W => Inv_any _ (fun i _ => by rw [hp2]; exact prN_lt _ _ _ _) W⟩
 have HVW : Shh (∀ W B' u, Sl W B' u m → B' ≤ W.heap.size → Calls Tryd.prog 53 #[.int .i64 1, u] W (PolyIs W M)) := ⟨fun W B' u hs hB => by
  rw [hM]
  exact widened_any 1 (by decide) B' u m hm W hs hB⟩
 have HVA : Shh (∀ W, Calls Tryd.prog 42 #[.agg (pc F).toArray, .agg (pc M).toArray] W (PolyIs W (addN F M))) := ⟨fun W => Add_any _ _ hFl hMl W⟩
 have HVB : Shh (∀ W, Calls Tryd.prog 42 #[.agg (pc (invN p2)).toArray, .agg (pc (addN F M)).toArray] W (PolyIs W (addN (invN p2) (addN F M)))) := ⟨fun W => Add_any _ _ (fun i _ => inv_lt _ _) (fun i _ => add_lt _ _ _) W⟩
 obtain ⟨VP, hVP⟩ : ∃ S, S = addN (invN p2) (addN F M) := ⟨_, rfl⟩
 have hVE : vEnc (unV ekt) m r = VP := by rw [hVP, hp2, hT, hY, hF, hM]; rfl
 rw [hVE]
 rw [← hVP] at HVB
 have HNV : Shh (∀ W, Calls Tryd.prog 54 #[.int .i64 4, .agg (pc VP).toArray] W (OwnIs W (narB 4 VP))) := ⟨fun W => narrowed_any 4 (by decide) VP (fun i _ => by rw [hVP]; exact add_lt _ _ _) W⟩
 have HNU : Shh (∀ k : Nat, k < 3 → ∀ W, Calls Tryd.prog 54 #[.int .i64 10, .agg (pc (U k)).toArray] W (OwnIs W (narB 10 (U k)))) := ⟨fun k hk W => narrowed_any 10 (by decide) (U k) (hUl k hk) W⟩
 have HLN : Shh (∀ k, (nkN U k).length = 320 * k ∧ (narB 10 (U k)).length = 320 ∧ nkN U k ++ narB 10 (U k) = nkN U (k + 1)) := ⟨fun k => ⟨nkN_length U k, narB_length 10 _, rfl⟩⟩
 have HLV : Shh ((narB 4 VP).length = 128) := ⟨narB_length 4 _⟩
 have HLL : Shh (1152 ≤ ek.length ∧ m.length = 32 ∧ r.length = 32 ∧ rho = ek.drop 1152 ∧ ekt = ek.take 1152) := ⟨by omega, hm, hr, hrho, hekt⟩
 generalize narB 4 VP = VB at *
 generalize addN F M = FM at *
 generalize invN p2 = ip2 at *
 generalize noisV r 0 = NS0 at *
 clear hTl hYl hEl hFl hMl hUl hT hY hE hF hM hU hok hp2 hVP hVE hrho hekt hrl hm hr hek
 generalize hN : w.heap.size = N at *
 have hN0 := Shh.mk hN
 have HA : Shh (Row ((w.alloc (.cells (Lib.byteCells m).toArray 22)).alloc (.cells (Lib.byteCells r).toArray 22)) N 22 (Lib.byteCells m) ∧ Row ((w.alloc (.cells (Lib.byteCells m).toArray 22)).alloc (.cells (Lib.byteCells r).toArray 22)) (N + 1) 22 (Lib.byteCells r) ∧ Sl ((w.alloc (.cells (Lib.byteCells m).toArray 22)).alloc (.cells (Lib.byteCells r).toArray 22)) N v ek ∧ KVars ((w.alloc (.cells (Lib.byteCells m).toArray 22)).alloc (.cells (Lib.byteCells r).toArray 22)) ∧ 0 < N ∧ Below N w ((w.alloc (.cells (Lib.byteCells m).toArray 22)).alloc (.cells (Lib.byteCells r).toArray 22))) := by
  have b1 := Below.chain (bel1 w (.cells (Lib.byteCells m).toArray 22)) (bel1 _ (.cells (Lib.byteCells r).toArray 22))
  refine ⟨(Row.new_ hN.symm rfl).alloc _, Row.new_ (by rw [asz, hN]) rfl, (hs.below (b1.mono (by omega))).more hBB, hv.step b1, hpos, ?_⟩
  rw [← hN]
  exact b1
 obtain ⟨A, c, rfl, hcc, _⟩ := hs.form
 have HCC : Shh (1152 ≤ c ∧ ek.length ≤ c) := ⟨by have := HLL.out.1; omega, hcc⟩
 obtain ⟨W0, hW0⟩ : ∃ W0, W0 = (w.alloc (.cells (Lib.byteCells m).toArray 22)).alloc (.cells (Lib.byteCells r).toArray 22) := ⟨_, rfl⟩
 rw [← hW0] at HA
 clear hs hBB hv hpos hcc hN
 go_enter Tryd.func26, Tryd.ntmps26
 go_wp2_with fail
 rw [← hW0]
 rw [show w.heap.size = N from hN0.out]
 clear hW0
 refine wp_region_held_drew (S := fun w' => True) (by kernel_rfl) trivial (fun hS => ?_)
 clear hS
 obtain ⟨X1, hX1⟩ : ∃ V, V = World.drew W0 := ⟨_, rfl⟩
 rw [← hX1]
 have HB : Shh (Row X1 N 22 (Lib.byteCells m) ∧ Row X1 (N + 1) 22 (Lib.byteCells r) ∧ Sl X1 (N) (.slice A ek.length c) (ek) ∧ KVars X1 ∧ 0 < N ∧ Below N w X1) := by
  obtain ⟨h0, h1, h2, h3, h4, h5⟩ := HA.out
  rw [hX1]
  exact ⟨h0.drew, h1.drew, h2.drew, h3.drew, h4, h5.drew⟩
 clear hX1 HA
 refine share (T := ?T1) (fun hT => ?gg1) ?tt1
 case gg1 =>
  have HC : Shh (Below X1.heap.size X1 X1) := ⟨Below.refl _ _⟩
  refine hdv0 0 17 (.slice A ek.length c) (by rfl) trivial ?_
  refine hdv 1 18 (sliced A 0 1152 c 1) (by rfl) (fun w hS => run_slice_op (by first | exact ⟨rfl, rfl⟩ | (constructor <;> kernel_rfl)) (run_cutE A ek.length c 1152 HCC.out.1 w)) trivial ?_
  refine hdv0 3 20 (.slice A ek.length c) (by rfl) trivial ?_
  refine hdv 4 21 (sliced A 1152 ek.length c 1) (by rfl) (fun w hS => run_slice_op_lo (by first | exact ⟨rfl, rfl⟩ | (constructor <;> kernel_rfl)) (run_cutFrom A ek.length c 1152 HLL.out.1 w)) trivial ?_
  refine held_two 2 5 (by kernel_rfl) ?_ ?_
  ·refine step_call 2 _ _ (some 19) 49 #[sliced A 0 1152 c 1] (by rfl) (by kernel_rfl) (by first | kernel_rfl | go_simp) ?_
   refine (HUN.out X1 N _ (by rw [HLL.out.2.2.2.2]; have h := ((HB.out.2.2.1.below (HC.out.mono (by have := (HB.out.1).lt; omega)))).cut 0 1152 (by decide) HLL.out.1 HCC.out.1; rw [List.drop_zero] at h; exact h) (by have := ((Row.go HB.out.1 HC.out)).lt; omega)).mono ?_
   rintro e w2 ⟨rfl, b1⟩
   have HD : Shh (Below X1.heap.size X1 w2) := by
    have h0 := HC.out
    have := b1.size
    have := h0.size
    exact ⟨Below.chain h0 b1⟩
   clear b1 HC
   refine ⟨_, rfl, trivial, ?_⟩
   simp only [Act.put, arr9, hd9, tl9]
   refine held_one 5 (by kernel_rfl) ?_
   refine step_zeroV 5 7 (by rfl) (by kernel_rfl) ?_
   intro G7 w4 hG7 r5 b3
   have HE : Shh (Below X1.heap.size X1 w4 ∧ Row w4 G7 64 (vc zV) ∧ X1.heap.size ≤ G7) := by
    have h0 := HD.out
    have := b3.size
    have := h0.size
    have := hG7.out
    exact ⟨Below.chain h0 b3, r5, (by omega)⟩
   clear b3 HD r5 hG7
   refine ⟨trivial, ?_⟩
   simp only [Act.put, arr9, hd9, tl9]
   refine held_one 6 (by kernel_rfl) ?_
   refine step_storeRow 6 64 (.tmp 7) (.tmp 19) (by rfl) (by kernel_rfl) G7 rfl (vc T) rfl 64 (vc zV) (HE.out.2.1) (info_vec.trans (size_vec _)) (by rw [vc_length, vc_length]) (vc_one _) ?_
   intro w7 r8 bt6 zbt6
   have HF : Shh (Below X1.heap.size X1 w7 ∧ Row w7 G7 64 (vc T) ∧ X1.heap.size ≤ G7) := by
    obtain ⟨h0, h1, h2⟩ := HE.out
    have := h1.lt
    have := h0.size
    have hb := bt6.under (Nat.le_of_lt h1.lt) (Nat.le_refl _)
    have := hb.size
    exact ⟨h0.trans (bt6.under (by omega) (by omega)), r8, h2⟩
   clear bt6 HE r8 zbt6
   refine ⟨trivial, ?_⟩
   refine hdv0 7 8 (sliced A 1152 ek.length c 1) (by rfl) trivial ?_
   refine wpAnyH_done (by kernel_rfl) ?_ _
   have HZ : Shh (Row w7 N 22 (Lib.byteCells m) ∧ Row w7 (N + 1) 22 (Lib.byteCells r) ∧ Sl w7 (N) (.slice A ek.length c) (ek) ∧ KVars w7 ∧ 0 < N ∧ Below N w w7 ∧ Row w7 G7 64 (vc T) ∧ N < G7) := by
    obtain ⟨h0, h1, h2, h3, h4, h5⟩ := HB.out
    obtain ⟨d0, d1, d2⟩ := HF.out
    have := h0.lt
    have := h1.lt
    have := d1.lt
    have := d0.size
    exact ⟨h0.go d0, h1.go d0, h2.below (d0.mono (by omega)), h3.step d0, h4, h5.trans (d0.mono (by omega)), d1, (by omega)⟩
   clear HF
   revert HZ
   revert w7
   revert G7
   exact hT.out
  ·refine step_zeroV 5 7 (by rfl) (by kernel_rfl) ?_
   intro G7 w2 hG7 r3 b1
   have HD : Shh (Below X1.heap.size X1 w2 ∧ Row w2 G7 64 (vc zV) ∧ X1.heap.size ≤ G7) := by
    have h0 := HC.out
    have := b1.size
    have := h0.size
    have := hG7.out
    exact ⟨Below.chain h0 b1, r3, (by omega)⟩
   clear b1 HC r3 hG7
   refine ⟨trivial, ?_⟩
   simp only [Act.put, arr9, hd9, tl9]
   refine held_one 2 (by kernel_rfl) ?_
   refine step_call 2 _ _ (some 19) 49 #[sliced A 0 1152 c 1] (by rfl) (by kernel_rfl) (by first | kernel_rfl | go_simp) ?_
   refine (HUN.out w2 N _ (by rw [HLL.out.2.2.2.2]; have h := ((HB.out.2.2.1.below (HD.out.1.mono (by have := (HB.out.1).lt; omega)))).cut 0 1152 (by decide) HLL.out.1 HCC.out.1; rw [List.drop_zero] at h; exact h) (by have := ((Row.go HB.out.1 HD.out.1)).lt; omega)).mono ?_
   rintro e w5 ⟨rfl, b4⟩
   have HE : Shh (Below X1.heap.size X1 w5 ∧ Row w5 G7 64 (vc zV) ∧ X1.heap.size ≤ G7) := by
    obtain ⟨h0, h1, h2⟩ := HD.out
    have := h1.lt
    have := b4.size
    have := h0.size
    exact ⟨Below.chain h0 b4, h1.go b4, h2⟩
   clear b4 HD
   refine ⟨_, rfl, trivial, ?_⟩
   simp only [Act.put, arr9, hd9, tl9]
   refine held_one 6 (by kernel_rfl) ?_
   refine step_storeRow 6 64 (.tmp 7) (.tmp 19) (by rfl) (by kernel_rfl) G7 rfl (vc T) rfl 64 (vc zV) (HE.out.2.1) (info_vec.trans (size_vec _)) (by rw [vc_length, vc_length]) (vc_one _) ?_
   intro w7 r8 bt6 zbt6
   have HF : Shh (Below X1.heap.size X1 w7 ∧ Row w7 G7 64 (vc T) ∧ X1.heap.size ≤ G7) := by
    obtain ⟨h0, h1, h2⟩ := HE.out
    have := h1.lt
    have := h0.size
    have hb := bt6.under (Nat.le_of_lt h1.lt) (Nat.le_refl _)
    have := hb.size
    exact ⟨h0.trans (bt6.under (by omega) (by omega)), r8, h2⟩
   clear bt6 HE r8 zbt6
   refine ⟨trivial, ?_⟩
   refine hdv0 7 8 (sliced A 1152 ek.length c 1) (by rfl) trivial ?_
   refine wpAnyH_done (by kernel_rfl) ?_ _
   have HZ : Shh (Row w7 N 22 (Lib.byteCells m) ∧ Row w7 (N + 1) 22 (Lib.byteCells r) ∧ Sl w7 (N) (.slice A ek.length c) (ek) ∧ KVars w7 ∧ 0 < N ∧ Below N w w7 ∧ Row w7 G7 64 (vc T) ∧ N < G7) := by
    obtain ⟨h0, h1, h2, h3, h4, h5⟩ := HB.out
    obtain ⟨d0, d1, d2⟩ := HF.out
    have := h0.lt
    have := h1.lt
    have := d1.lt
    have := d0.size
    exact ⟨h0.go d0, h1.go d0, h2.below (d0.mono (by omega)), h3.step d0, h4, h5.trans (d0.mono (by omega)), d1, (by omega)⟩
   clear HF
   revert HZ
   revert w7
   revert G7
   exact hT.out
 case tt1 =>
  clear HB
  intro G7 X2 HA
  have HB : Shh (Row X2 N 22 (Lib.byteCells m) ∧ Row X2 (N + 1) 22 (Lib.byteCells r) ∧ Sl X2 (N) (sliced A 1152 ek.length c 1) (rho) ∧ KVars X2 ∧ 0 < N ∧ Below N w X2 ∧ Row X2 G7 64 (vc T) ∧ N < G7) := by
   obtain ⟨h0, h1, h2, h3, h4, h5, h6, h7⟩ := HA.out
   have hh := h2.cut 1152 ek.length HLL.out.1 (Nat.le_refl _) HCC.out.2
   rw [List.take_length, ← HLL.out.2.2.2.1] at hh
   exact ⟨h0, h1, hh, h3, h4, h5, h6, h7⟩
  clear HA HUN
  obtain ⟨AR, cR, hRV, _, _⟩ : ∃ A' c', sliced A 1152 ek.length c 1 = .slice A' rho.length c' ∧ rho.length ≤ c' ∧ c' ≤ maxLen := (HB.out.2.2.1).form
  rw [hRV]
  rw [hRV] at HB
  clear hRV
  go_wp2_with (go_at_call 41; refine (HN0.out _ (N + 1 + 1) _ (Sl.of_bytes (HB.out.2.1) (Nat.lt_succ_self _) HLL.out.2.2.1 (by decide)) (HB.out.2.1).lt HB.out.2.2.2.1).mono ?_)
  rintro e w2 ⟨rfl, b1⟩
  have HC : Shh (Row w2 N 22 (Lib.byteCells m) ∧ Row w2 (N + 1) 22 (Lib.byteCells r) ∧ Sl w2 (N) (.slice AR rho.length cR) (rho) ∧ KVars w2 ∧ 0 < N ∧ Below N w w2 ∧ Row w2 G7 64 (vc T) ∧ N < G7) := by
   obtain ⟨h0, h1, h2, h3, h4, h5, h6, h7⟩ := HB.out
   have := h0.lt
   have := h1.lt
   have := h6.lt
   have := b1.size
   exact ⟨h0.go b1, h1.go b1, h2.below (b1.mono (by omega)), h3.step b1, h4, h5.trans (b1.mono (by omega)), h6.go b1, h7⟩
  clear b1 HB
  go_wp2_with (go_at_call 40; refine (HTY.out _).mono ?_)
  rintro e w4 ⟨rfl, b3⟩
  have HD : Shh (Row w4 N 22 (Lib.byteCells m) ∧ Row w4 (N + 1) 22 (Lib.byteCells r) ∧ Sl w4 (N) (.slice AR rho.length cR) (rho) ∧ KVars w4 ∧ 0 < N ∧ Below N w w4 ∧ Row w4 G7 64 (vc T) ∧ N < G7) := by
   obtain ⟨h0, h1, h2, h3, h4, h5, h6, h7⟩ := HC.out
   have := h0.lt
   have := h1.lt
   have := h6.lt
   have := b3.size
   exact ⟨h0.go b3, h1.go b3, h2.below (b3.mono (by omega)), h3.step b3, h4, h5.trans (b3.mono (by omega)), h6.go b3, h7⟩
  clear b3 HC HN0
  go_wp2_with (refine wl_newV 9 Y rfl rfl rfl rfl rfl rfl rfl rfl ?_)
  intro G9 w6 hG9 r7 b5
  simp only [Act.put, arr9, hd9, tl9]
  have HE : Shh (Row w6 N 22 (Lib.byteCells m) ∧ Row w6 (N + 1) 22 (Lib.byteCells r) ∧ Sl w6 (N) (.slice AR rho.length cR) (rho) ∧ KVars w6 ∧ 0 < N ∧ Below N w w6 ∧ Row w6 G7 64 (vc T) ∧ N < G7 ∧ Row w6 G9 64 (vc Y) ∧ G7 < G9) := by
   obtain ⟨h0, h1, h2, h3, h4, h5, h6, h7⟩ := HD.out
   have := h0.lt
   have := h1.lt
   have := h6.lt
   have := b5.size
   have := hG9.out
   exact ⟨h0.go b5, h1.go b5, h2.below (b5.mono (by omega)), h3.step b5, h4, h5.trans (b5.mono (by omega)), h6.go b5, h7, r7, (by omega)⟩
  clear b5 HD r7 hG9
  clear HTY
  go_wp2
  refine wp_region_held_drew (S := fun w' => True) (by kernel_rfl) trivial (fun hS => ?_)
  clear hS
  obtain ⟨X8, hX8⟩ : ∃ V, V = World.drew w6 := ⟨_, rfl⟩
  rw [← hX8]
  have HF : Shh (Row X8 N 22 (Lib.byteCells m) ∧ Row X8 (N + 1) 22 (Lib.byteCells r) ∧ Sl X8 (N) (.slice AR rho.length cR) (rho) ∧ KVars X8 ∧ 0 < N ∧ Below N w X8 ∧ Row X8 G7 64 (vc T) ∧ N < G7 ∧ Row X8 G9 64 (vc Y) ∧ G7 < G9) := by
   obtain ⟨h0, h1, h2, h3, h4, h5, h6, h7, h8, h9⟩ := HE.out
   rw [hX8]
   exact ⟨h0.drew, h1.drew, h2.drew, h3.drew, h4, h5.drew, h6.drew, h7, h8.drew, h9⟩
  clear hX8 HE
  refine share (T := ?T3) (fun hT => ?gg3) ?tt3
  case gg3 =>
   have HG : Shh (Below X8.heap.size X8 X8) := ⟨Below.refl _ _⟩
   refine hdv0 0 25 (.slice (some ⟨N + 1, 0, none⟩) 32 32) (by rfl) trivial ?_
   refine hdv0 2 27 (.slice (some ⟨N + 1, 0, none⟩) 32 32) (by rfl) trivial ?_
   refine held_three 1 4 5 (by kernel_rfl) ?_ ?_ ?_
   ·refine step_call 1 _ _ (some 26) 41 #[.slice (some ⟨N + 1, 0, none⟩) 32 32, .int .i64 3] (by rfl) (by kernel_rfl) (by first | kernel_rfl | go_simp) ?_
    refine (HN3.out X8 (N + 1 + 1) _ (Sl.of_bytes ((Row.go HF.out.2.1 HG.out)) (Nat.lt_succ_self _) HLL.out.2.2.1 (by decide)) ((Row.go HF.out.2.1 HG.out)).lt (HF.out.2.2.2.1.step HG.out)).mono ?_
    rintro e w10 ⟨rfl, b9⟩
    have HH : Shh (Below X8.heap.size X8 w10) := by
     have h0 := HG.out
     have := b9.size
     have := h0.size
     exact ⟨Below.chain h0 b9⟩
    clear b9 HG
    refine ⟨_, rfl, trivial, ?_⟩
    simp only [Act.put, arr9, hd9, tl9]
    refine held_three 3 4 5 (by kernel_rfl) ?_ ?_ ?_
    ·refine step_call 3 _ _ (some 28) 50 #[.slice (some ⟨N + 1, 0, none⟩) 32 32, .int .i64 6] (by rfl) (by kernel_rfl) (by first | kernel_rfl | go_simp) ?_
     refine (HN6.out w10 (N + 1 + 1) _ (Sl.of_bytes ((Row.go HF.out.2.1 HH.out)) (Nat.lt_succ_self _) HLL.out.2.2.1 (by decide)) ((Row.go HF.out.2.1 HH.out)).lt (HF.out.2.2.2.1.step HH.out)).mono ?_
     rintro e w12 ⟨rfl, b11⟩
     have HI : Shh (Below X8.heap.size X8 w12) := by
      have h0 := HH.out
      have := b11.size
      have := h0.size
      exact ⟨Below.chain h0 b11⟩
     clear b11 HH
     refine ⟨_, rfl, trivial, ?_⟩
     simp only [Act.put, arr9, hd9, tl9]
     refine held_two 4 5 (by kernel_rfl) ?_ ?_
     ·refine step_zeroV 4 10 (by rfl) (by kernel_rfl) ?_
      intro G10 w14 hG10 r15 b13
      have HJ : Shh (Below X8.heap.size X8 w14 ∧ Row w14 G10 64 (vc zV) ∧ X8.heap.size ≤ G10 ∧ X8.heap.size ≤ G10) := by
       have h0 := HI.out
       have := b13.size
       have := h0.size
       have := hG10.out
       exact ⟨Below.chain h0 b13, r15, (by omega), (by omega)⟩
      clear b13 HI r15 hG10
      refine ⟨trivial, ?_⟩
      simp only [Act.put, arr9, hd9, tl9]
      refine held_one 5 (by kernel_rfl) ?_
      refine step_zeroP 5 11 (by rfl) (by kernel_rfl) ?_
      intro G11 w17 hG11 r18 b16
      have HK : Shh (Below X8.heap.size X8 w17 ∧ Row w17 G10 64 (vc zV) ∧ X8.heap.size ≤ G10 ∧ X8.heap.size ≤ G10 ∧ Row w17 G11 62 (pc fun _ => 0) ∧ X8.heap.size ≤ G11 ∧ ¬ G10 = G11) := by
       obtain ⟨h0, h1, h2, h3⟩ := HJ.out
       have := h1.lt
       have := b16.size
       have := h0.size
       have := hG11.out
       exact ⟨Below.chain h0 b16, h1.go b16, h2, h3, r18, (by omega), (by omega)⟩
      clear b16 HJ r18 hG11
      refine ⟨trivial, ?_⟩
      simp only [Act.put, arr9, hd9, tl9]
      refine held_one 6 (by kernel_rfl) ?_
      refine step_storeRow 6 64 (.tmp 10) (.tmp 26) (by rfl) (by kernel_rfl) G10 rfl (vc E) rfl 64 (vc zV) (HK.out.2.1) (info_vec.trans (size_vec _)) (by rw [vc_length, vc_length]) (vc_one _) ?_
      intro w20 r21 bt19 zbt19
      have HL : Shh (Below X8.heap.size X8 w20 ∧ Row w20 G10 64 (vc E) ∧ X8.heap.size ≤ G10 ∧ X8.heap.size ≤ G10 ∧ Row w20 G11 62 (pc fun _ => 0) ∧ X8.heap.size ≤ G11 ∧ ¬ G10 = G11) := by
       obtain ⟨h0, h1, h2, h3, h4, h5, h6⟩ := HK.out
       have := h1.lt
       have := h4.lt
       have := h0.size
       have hb := bt19.under (Nat.le_of_lt h1.lt) (Nat.le_refl _)
       have := hb.size
       exact ⟨h0.trans (bt19.under (by omega) (by omega)), r21, h2, h3, bt19.row h4 h4.lt (by omega), h5, h6⟩
      clear bt19 HK r21 zbt19
      refine ⟨trivial, ?_⟩
      refine held_one 7 (by kernel_rfl) ?_
      refine step_storeRow 7 62 (.tmp 11) (.tmp 28) (by rfl) (by kernel_rfl) G11 rfl (pc F) rfl 62 (pc fun _ => 0) (HL.out.2.2.2.2.1) (info_poly.trans (size_poly _)) (by rw [pc_length, pc_length]) (pc_one _) ?_
      intro w23 r24 bt22 zbt22
      have HM : Shh (Below X8.heap.size X8 w23 ∧ Row w23 G10 64 (vc E) ∧ X8.heap.size ≤ G10 ∧ X8.heap.size ≤ G10 ∧ Row w23 G11 62 (pc F) ∧ X8.heap.size ≤ G11 ∧ ¬ G10 = G11) := by
       obtain ⟨h0, h1, h2, h3, h4, h5, h6⟩ := HL.out
       have := h1.lt
       have := h4.lt
       have := h0.size
       have hb := bt22.under (Nat.le_of_lt h4.lt) (Nat.le_refl _)
       have := hb.size
       exact ⟨h0.trans (bt22.under (by omega) (by omega)), bt22.row h1 h1.lt (by omega), h2, h3, r24, h5, h6⟩
      clear bt22 HL r24 zbt22
      refine ⟨trivial, ?_⟩
      refine wpAnyH_done (by kernel_rfl) ?_ _
      have HZ : Shh (Row w23 N 22 (Lib.byteCells m) ∧ Row w23 (N + 1) 22 (Lib.byteCells r) ∧ Sl w23 (N) (.slice AR rho.length cR) (rho) ∧ KVars w23 ∧ 0 < N ∧ Below N w w23 ∧ Row w23 G7 64 (vc T) ∧ N < G7 ∧ Row w23 G9 64 (vc Y) ∧ G7 < G9 ∧ Row w23 G10 64 (vc E) ∧ Row w23 G11 62 (pc F) ∧ G9 < G10 ∧ G9 < G11 ∧ ¬ G10 = G11) := by
       obtain ⟨h0, h1, h2, h3, h4, h5, h6, h7, h8, h9⟩ := HF.out
       obtain ⟨d0, d1, d2, d3, d4, d5, d6⟩ := HM.out
       have := h0.lt
       have := h1.lt
       have := h6.lt
       have := h8.lt
       have := d1.lt
       have := d4.lt
       have := d0.size
       exact ⟨h0.go d0, h1.go d0, h2.below (d0.mono (by omega)), h3.step d0, h4, h5.trans (d0.mono (by omega)), h6.go d0, h7, h8.go d0, h9, d1, d4, (by omega), (by omega), d6⟩
      clear HM
      revert HZ
      revert w23
      revert G11
      revert G10
      exact hT.out
     ·refine step_zeroP 5 11 (by rfl) (by kernel_rfl) ?_
      intro G11 w14 hG11 r15 b13
      have HJ : Shh (Below X8.heap.size X8 w14 ∧ Row w14 G11 62 (pc fun _ => 0) ∧ X8.heap.size ≤ G11 ∧ X8.heap.size ≤ G11) := by
       have h0 := HI.out
       have := b13.size
       have := h0.size
       have := hG11.out
       exact ⟨Below.chain h0 b13, r15, (by omega), (by omega)⟩
      clear b13 HI r15 hG11
      refine ⟨trivial, ?_⟩
      simp only [Act.put, arr9, hd9, tl9]
      refine held_one 4 (by kernel_rfl) ?_
      refine step_zeroV 4 10 (by rfl) (by kernel_rfl) ?_
      intro G10 w17 hG10 r18 b16
      have HK : Shh (Below X8.heap.size X8 w17 ∧ Row w17 G11 62 (pc fun _ => 0) ∧ X8.heap.size ≤ G11 ∧ X8.heap.size ≤ G11 ∧ Row w17 G10 64 (vc zV) ∧ X8.heap.size ≤ G10 ∧ ¬ G10 = G11) := by
       obtain ⟨h0, h1, h2, h3⟩ := HJ.out
       have := h1.lt
       have := b16.size
       have := h0.size
       have := hG10.out
       exact ⟨Below.chain h0 b16, h1.go b16, h2, h3, r18, (by omega), (by omega)⟩
      clear b16 HJ r18 hG10
      refine ⟨trivial, ?_⟩
      simp only [Act.put, arr9, hd9, tl9]
      refine held_one 6 (by kernel_rfl) ?_
      refine step_storeRow 6 64 (.tmp 10) (.tmp 26) (by rfl) (by kernel_rfl) G10 rfl (vc E) rfl 64 (vc zV) (HK.out.2.2.2.2.1) (info_vec.trans (size_vec _)) (by rw [vc_length, vc_length]) (vc_one _) ?_
      intro w20 r21 bt19 zbt19
      have HL : Shh (Below X8.heap.size X8 w20 ∧ Row w20 G11 62 (pc fun _ => 0) ∧ X8.heap.size ≤ G11 ∧ X8.heap.size ≤ G11 ∧ Row w20 G10 64 (vc E) ∧ X8.heap.size ≤ G10 ∧ ¬ G10 = G11) := by
       obtain ⟨h0, h1, h2, h3, h4, h5, h6⟩ := HK.out
       have := h1.lt
       have := h4.lt
       have := h0.size
       have hb := bt19.under (Nat.le_of_lt h4.lt) (Nat.le_refl _)
       have := hb.size
       exact ⟨h0.trans (bt19.under (by omega) (by omega)), bt19.row h1 h1.lt (by omega), h2, h3, r21, h5, h6⟩
      clear bt19 HK r21 zbt19
      refine ⟨trivial, ?_⟩
      refine held_one 7 (by kernel_rfl) ?_
      refine step_storeRow 7 62 (.tmp 11) (.tmp 28) (by rfl) (by kernel_rfl) G11 rfl (pc F) rfl 62 (pc fun _ => 0) (HL.out.2.1) (info_poly.trans (size_poly _)) (by rw [pc_length, pc_length]) (pc_one _) ?_
      intro w23 r24 bt22 zbt22
      have HM : Shh (Below X8.heap.size X8 w23 ∧ Row w23 G11 62 (pc F) ∧ X8.heap.size ≤ G11 ∧ X8.heap.size ≤ G11 ∧ Row w23 G10 64 (vc E) ∧ X8.heap.size ≤ G10 ∧ ¬ G10 = G11) := by
       obtain ⟨h0, h1, h2, h3, h4, h5, h6⟩ := HL.out
       have := h1.lt
       have := h4.lt
       have := h0.size
       have hb := bt22.under (Nat.le_of_lt h1.lt) (Nat.le_refl _)
       have := hb.size
       exact ⟨h0.trans (bt22.under (by omega) (by omega)), r24, h2, h3, bt22.row h4 h4.lt (by omega), h5, h6⟩
      clear bt22 HL r24 zbt22
      refine ⟨trivial, ?_⟩
      refine wpAnyH_done (by kernel_rfl) ?_ _
      have HZ : Shh (Row w23 N 22 (Lib.byteCells m) ∧ Row w23 (N + 1) 22 (Lib.byteCells r) ∧ Sl w23 (N) (.slice AR rho.length cR) (rho) ∧ KVars w23 ∧ 0 < N ∧ Below N w w23 ∧ Row w23 G7 64 (vc T) ∧ N < G7 ∧ Row w23 G9 64 (vc Y) ∧ G7 < G9 ∧ Row w23 G10 64 (vc E) ∧ Row w23 G11 62 (pc F) ∧ G9 < G10 ∧ G9 < G11 ∧ ¬ G10 = G11) := by
       obtain ⟨h0, h1, h2, h3, h4, h5, h6, h7, h8, h9⟩ := HF.out
       obtain ⟨d0, d1, d2, d3, d4, d5, d6⟩ := HM.out
       have := h0.lt
       have := h1.lt
       have := h6.lt
       have := h8.lt
       have := d1.lt
       have := d4.lt
       have := d0.size
       exact ⟨h0.go d0, h1.go d0, h2.below (d0.mono (by omega)), h3.step d0, h4, h5.trans (d0.mono (by omega)), h6.go d0, h7, h8.go d0, h9, d4, d1, (by omega), (by omega), d6⟩
      clear HM
      revert HZ
      revert w23
      revert G11
      revert G10
      exact hT.out
    ·refine step_zeroV 4 10 (by rfl) (by kernel_rfl) ?_
     intro G10 w12 hG10 r13 b11
     have HI : Shh (Below X8.heap.size X8 w12 ∧ Row w12 G10 64 (vc zV) ∧ X8.heap.size ≤ G10 ∧ X8.heap.size ≤ G10) := by
      have h0 := HH.out
      have := b11.size
      have := h0.size
      have := hG10.out
      exact ⟨Below.chain h0 b11, r13, (by omega), (by omega)⟩
     clear b11 HH r13 hG10
     refine ⟨trivial, ?_⟩
     simp only [Act.put, arr9, hd9, tl9]
     refine held_two 3 5 (by kernel_rfl) ?_ ?_
     ·refine step_call 3 _ _ (some 28) 50 #[.slice (some ⟨N + 1, 0, none⟩) 32 32, .int .i64 6] (by rfl) (by kernel_rfl) (by first | kernel_rfl | go_simp) ?_
      refine (HN6.out w12 (N + 1 + 1) _ (Sl.of_bytes ((Row.go HF.out.2.1 HI.out.1)) (Nat.lt_succ_self _) HLL.out.2.2.1 (by decide)) ((Row.go HF.out.2.1 HI.out.1)).lt (HF.out.2.2.2.1.step HI.out.1)).mono ?_
      rintro e w15 ⟨rfl, b14⟩
      have HJ : Shh (Below X8.heap.size X8 w15 ∧ Row w15 G10 64 (vc zV) ∧ X8.heap.size ≤ G10 ∧ X8.heap.size ≤ G10) := by
       obtain ⟨h0, h1, h2, h3⟩ := HI.out
       have := h1.lt
       have := b14.size
       have := h0.size
       exact ⟨Below.chain h0 b14, h1.go b14, h2, h3⟩
      clear b14 HI
      refine ⟨_, rfl, trivial, ?_⟩
      simp only [Act.put, arr9, hd9, tl9]
      refine held_one 5 (by kernel_rfl) ?_
      refine step_zeroP 5 11 (by rfl) (by kernel_rfl) ?_
      intro G11 w17 hG11 r18 b16
      have HK : Shh (Below X8.heap.size X8 w17 ∧ Row w17 G10 64 (vc zV) ∧ X8.heap.size ≤ G10 ∧ X8.heap.size ≤ G10 ∧ Row w17 G11 62 (pc fun _ => 0) ∧ X8.heap.size ≤ G11 ∧ ¬ G10 = G11) := by
       obtain ⟨h0, h1, h2, h3⟩ := HJ.out
       have := h1.lt
       have := b16.size
       have := h0.size
       have := hG11.out
       exact ⟨Below.chain h0 b16, h1.go b16, h2, h3, r18, (by omega), (by omega)⟩
      clear b16 HJ r18 hG11
      refine ⟨trivial, ?_⟩
      simp only [Act.put, arr9, hd9, tl9]
      refine held_one 6 (by kernel_rfl) ?_
      refine step_storeRow 6 64 (.tmp 10) (.tmp 26) (by rfl) (by kernel_rfl) G10 rfl (vc E) rfl 64 (vc zV) (HK.out.2.1) (info_vec.trans (size_vec _)) (by rw [vc_length, vc_length]) (vc_one _) ?_
      intro w20 r21 bt19 zbt19
      have HL : Shh (Below X8.heap.size X8 w20 ∧ Row w20 G10 64 (vc E) ∧ X8.heap.size ≤ G10 ∧ X8.heap.size ≤ G10 ∧ Row w20 G11 62 (pc fun _ => 0) ∧ X8.heap.size ≤ G11 ∧ ¬ G10 = G11) := by
       obtain ⟨h0, h1, h2, h3, h4, h5, h6⟩ := HK.out
       have := h1.lt
       have := h4.lt
       have := h0.size
       have hb := bt19.under (Nat.le_of_lt h1.lt) (Nat.le_refl _)
       have := hb.size
       exact ⟨h0.trans (bt19.under (by omega) (by omega)), r21, h2, h3, bt19.row h4 h4.lt (by omega), h5, h6⟩
      clear bt19 HK r21 zbt19
      refine ⟨trivial, ?_⟩
      refine held_one 7 (by kernel_rfl) ?_
      refine step_storeRow 7 62 (.tmp 11) (.tmp 28) (by rfl) (by kernel_rfl) G11 rfl (pc F) rfl 62 (pc fun _ => 0) (HL.out.2.2.2.2.1) (info_poly.trans (size_poly _)) (by rw [pc_length, pc_length]) (pc_one _) ?_
      intro w23 r24 bt22 zbt22
      have HM : Shh (Below X8.heap.size X8 w23 ∧ Row w23 G10 64 (vc E) ∧ X8.heap.size ≤ G10 ∧ X8.heap.size ≤ G10 ∧ Row w23 G11 62 (pc F) ∧ X8.heap.size ≤ G11 ∧ ¬ G10 = G11) := by
       obtain ⟨h0, h1, h2, h3, h4, h5, h6⟩ := HL.out
       have := h1.lt
       have := h4.lt
       have := h0.size
       have hb := bt22.under (Nat.le_of_lt h4.lt) (Nat.le_refl _)
       have := hb.size
       exact ⟨h0.trans (bt22.under (by omega) (by omega)), bt22.row h1 h1.lt (by omega), h2, h3, r24, h5, h6⟩
      clear bt22 HL r24 zbt22
      refine ⟨trivial, ?_⟩
      refine wpAnyH_done (by kernel_rfl) ?_ _
      have HZ : Shh (Row w23 N 22 (Lib.byteCells m) ∧ Row w23 (N + 1) 22 (Lib.byteCells r) ∧ Sl w23 (N) (.slice AR rho.length cR) (rho) ∧ KVars w23 ∧ 0 < N ∧ Below N w w23 ∧ Row w23 G7 64 (vc T) ∧ N < G7 ∧ Row w23 G9 64 (vc Y) ∧ G7 < G9 ∧ Row w23 G10 64 (vc E) ∧ Row w23 G11 62 (pc F) ∧ G9 < G10 ∧ G9 < G11 ∧ ¬ G10 = G11) := by
       obtain ⟨h0, h1, h2, h3, h4, h5, h6, h7, h8, h9⟩ := HF.out
       obtain ⟨d0, d1, d2, d3, d4, d5, d6⟩ := HM.out
       have := h0.lt
       have := h1.lt
       have := h6.lt
       have := h8.lt
       have := d1.lt
       have := d4.lt
       have := d0.size
       exact ⟨h0.go d0, h1.go d0, h2.below (d0.mono (by omega)), h3.step d0, h4, h5.trans (d0.mono (by omega)), h6.go d0, h7, h8.go d0, h9, d1, d4, (by omega), (by omega), d6⟩
      clear HM
      revert HZ
      revert w23
      revert G11
      revert G10
      exact hT.out
     ·refine step_zeroP 5 11 (by rfl) (by kernel_rfl) ?_
      intro G11 w15 hG11 r16 b14
      have HJ : Shh (Below X8.heap.size X8 w15 ∧ Row w15 G10 64 (vc zV) ∧ X8.heap.size ≤ G10 ∧ X8.heap.size ≤ G10 ∧ Row w15 G11 62 (pc fun _ => 0) ∧ X8.heap.size ≤ G11 ∧ ¬ G10 = G11) := by
       obtain ⟨h0, h1, h2, h3⟩ := HI.out
       have := h1.lt
       have := b14.size
       have := h0.size
       have := hG11.out
       exact ⟨Below.chain h0 b14, h1.go b14, h2, h3, r16, (by omega), (by omega)⟩
      clear b14 HI r16 hG11
      refine ⟨trivial, ?_⟩
      simp only [Act.put, arr9, hd9, tl9]
      refine held_one 3 (by kernel_rfl) ?_
      refine step_call 3 _ _ (some 28) 50 #[.slice (some ⟨N + 1, 0, none⟩) 32 32, .int .i64 6] (by rfl) (by kernel_rfl) (by first | kernel_rfl | go_simp) ?_
      refine (HN6.out w15 (N + 1 + 1) _ (Sl.of_bytes ((Row.go HF.out.2.1 HJ.out.1)) (Nat.lt_succ_self _) HLL.out.2.2.1 (by decide)) ((Row.go HF.out.2.1 HJ.out.1)).lt (HF.out.2.2.2.1.step HJ.out.1)).mono ?_
      rintro e w18 ⟨rfl, b17⟩
      have HK : Shh (Below X8.heap.size X8 w18 ∧ Row w18 G10 64 (vc zV) ∧ X8.heap.size ≤ G10 ∧ X8.heap.size ≤ G10 ∧ Row w18 G11 62 (pc fun _ => 0) ∧ X8.heap.size ≤ G11 ∧ ¬ G10 = G11) := by
       obtain ⟨h0, h1, h2, h3, h4, h5, h6⟩ := HJ.out
       have := h1.lt
       have := h4.lt
       have := b17.size
       have := h0.size
       exact ⟨Below.chain h0 b17, h1.go b17, h2, h3, h4.go b17, h5, h6⟩
      clear b17 HJ
      refine ⟨_, rfl, trivial, ?_⟩
      simp only [Act.put, arr9, hd9, tl9]
      refine held_one 6 (by kernel_rfl) ?_
      refine step_storeRow 6 64 (.tmp 10) (.tmp 26) (by rfl) (by kernel_rfl) G10 rfl (vc E) rfl 64 (vc zV) (HK.out.2.1) (info_vec.trans (size_vec _)) (by rw [vc_length, vc_length]) (vc_one _) ?_
      intro w20 r21 bt19 zbt19
      have HL : Shh (Below X8.heap.size X8 w20 ∧ Row w20 G10 64 (vc E) ∧ X8.heap.size ≤ G10 ∧ X8.heap.size ≤ G10 ∧ Row w20 G11 62 (pc fun _ => 0) ∧ X8.heap.size ≤ G11 ∧ ¬ G10 = G11) := by
       obtain ⟨h0, h1, h2, h3, h4, h5, h6⟩ := HK.out
       have := h1.lt
       have := h4.lt
       have := h0.size
       have hb := bt19.under (Nat.le_of_lt h1.lt) (Nat.le_refl _)
       have := hb.size
       exact ⟨h0.trans (bt19.under (by omega) (by omega)), r21, h2, h3, bt19.row h4 h4.lt (by omega), h5, h6⟩
      clear bt19 HK r21 zbt19
      refine ⟨trivial, ?_⟩
      refine held_one 7 (by kernel_rfl) ?_
      refine step_storeRow 7 62 (.tmp 11) (.tmp 28) (by rfl) (by kernel_rfl) G11 rfl (pc F) rfl 62 (pc fun _ => 0) (HL.out.2.2.2.2.1) (info_poly.trans (size_poly _)) (by rw [pc_length, pc_length]) (pc_one _) ?_
      intro w23 r24 bt22 zbt22
      have HM : Shh (Below X8.heap.size X8 w23 ∧ Row w23 G10 64 (vc E) ∧ X8.heap.size ≤ G10 ∧ X8.heap.size ≤ G10 ∧ Row w23 G11 62 (pc F) ∧ X8.heap.size ≤ G11 ∧ ¬ G10 = G11) := by
       obtain ⟨h0, h1, h2, h3, h4, h5, h6⟩ := HL.out
       have := h1.lt
       have := h4.lt
       have := h0.size
       have hb := bt22.under (Nat.le_of_lt h4.lt) (Nat.le_refl _)
       have := hb.size
       exact ⟨h0.trans (bt22.under (by omega) (by omega)), bt22.row h1 h1.lt (by omega), h2, h3, r24, h5, h6⟩
      clear bt22 HL r24 zbt22
      refine ⟨trivial, ?_⟩
      refine wpAnyH_done (by kernel_rfl) ?_ _
      have HZ : Shh (Row w23 N 22 (Lib.byteCells m) ∧ Row w23 (N + 1) 22 (Lib.byteCells r) ∧ Sl w23 (N) (.slice AR rho.length cR) (rho) ∧ KVars w23 ∧ 0 < N ∧ Below N w w23 ∧ Row w23 G7 64 (vc T) ∧ N < G7 ∧ Row w23 G9 64 (vc Y) ∧ G7 < G9 ∧ Row w23 G10 64 (vc E) ∧ Row w23 G11 62 (pc F) ∧ G9 < G10 ∧ G9 < G11 ∧ ¬ G10 = G11) := by
       obtain ⟨h0, h1, h2, h3, h4, h5, h6, h7, h8, h9⟩ := HF.out
       obtain ⟨d0, d1, d2, d3, d4, d5, d6⟩ := HM.out
       have := h0.lt
       have := h1.lt
       have := h6.lt
       have := h8.lt
       have := d1.lt
       have := d4.lt
       have := d0.size
       exact ⟨h0.go d0, h1.go d0, h2.below (d0.mono (by omega)), h3.step d0, h4, h5.trans (d0.mono (by omega)), h6.go d0, h7, h8.go d0, h9, d1, d4, (by omega), (by omega), d6⟩
      clear HM
      revert HZ
      revert w23
      revert G11
      revert G10
      exact hT.out
    ·refine step_zeroP 5 11 (by rfl) (by kernel_rfl) ?_
     intro G11 w12 hG11 r13 b11
     have HI : Shh (Below X8.heap.size X8 w12 ∧ Row w12 G11 62 (pc fun _ => 0) ∧ X8.heap.size ≤ G11 ∧ X8.heap.size ≤ G11) := by
      have h0 := HH.out
      have := b11.size
      have := h0.size
      have := hG11.out
      exact ⟨Below.chain h0 b11, r13, (by omega), (by omega)⟩
     clear b11 HH r13 hG11
     refine ⟨trivial, ?_⟩
     simp only [Act.put, arr9, hd9, tl9]
     refine held_two 3 4 (by kernel_rfl) ?_ ?_
     ·refine step_call 3 _ _ (some 28) 50 #[.slice (some ⟨N + 1, 0, none⟩) 32 32, .int .i64 6] (by rfl) (by kernel_rfl) (by first | kernel_rfl | go_simp) ?_
      refine (HN6.out w12 (N + 1 + 1) _ (Sl.of_bytes ((Row.go HF.out.2.1 HI.out.1)) (Nat.lt_succ_self _) HLL.out.2.2.1 (by decide)) ((Row.go HF.out.2.1 HI.out.1)).lt (HF.out.2.2.2.1.step HI.out.1)).mono ?_
      rintro e w15 ⟨rfl, b14⟩
      have HJ : Shh (Below X8.heap.size X8 w15 ∧ Row w15 G11 62 (pc fun _ => 0) ∧ X8.heap.size ≤ G11 ∧ X8.heap.size ≤ G11) := by
       obtain ⟨h0, h1, h2, h3⟩ := HI.out
       have := h1.lt
       have := b14.size
       have := h0.size
       exact ⟨Below.chain h0 b14, h1.go b14, h2, h3⟩
      clear b14 HI
      refine ⟨_, rfl, trivial, ?_⟩
      simp only [Act.put, arr9, hd9, tl9]
      refine held_one 4 (by kernel_rfl) ?_
      refine step_zeroV 4 10 (by rfl) (by kernel_rfl) ?_
      intro G10 w17 hG10 r18 b16
      have HK : Shh (Below X8.heap.size X8 w17 ∧ Row w17 G11 62 (pc fun _ => 0) ∧ X8.heap.size ≤ G11 ∧ X8.heap.size ≤ G11 ∧ Row w17 G10 64 (vc zV) ∧ X8.heap.size ≤ G10 ∧ ¬ G10 = G11) := by
       obtain ⟨h0, h1, h2, h3⟩ := HJ.out
       have := h1.lt
       have := b16.size
       have := h0.size
       have := hG10.out
       exact ⟨Below.chain h0 b16, h1.go b16, h2, h3, r18, (by omega), (by omega)⟩
      clear b16 HJ r18 hG10
      refine ⟨trivial, ?_⟩
      simp only [Act.put, arr9, hd9, tl9]
      refine held_one 6 (by kernel_rfl) ?_
      refine step_storeRow 6 64 (.tmp 10) (.tmp 26) (by rfl) (by kernel_rfl) G10 rfl (vc E) rfl 64 (vc zV) (HK.out.2.2.2.2.1) (info_vec.trans (size_vec _)) (by rw [vc_length, vc_length]) (vc_one _) ?_
      intro w20 r21 bt19 zbt19
      have HL : Shh (Below X8.heap.size X8 w20 ∧ Row w20 G11 62 (pc fun _ => 0) ∧ X8.heap.size ≤ G11 ∧ X8.heap.size ≤ G11 ∧ Row w20 G10 64 (vc E) ∧ X8.heap.size ≤ G10 ∧ ¬ G10 = G11) := by
       obtain ⟨h0, h1, h2, h3, h4, h5, h6⟩ := HK.out
       have := h1.lt
       have := h4.lt
       have := h0.size
       have hb := bt19.under (Nat.le_of_lt h4.lt) (Nat.le_refl _)
       have := hb.size
       exact ⟨h0.trans (bt19.under (by omega) (by omega)), bt19.row h1 h1.lt (by omega), h2, h3, r21, h5, h6⟩
      clear bt19 HK r21 zbt19
      refine ⟨trivial, ?_⟩
      refine held_one 7 (by kernel_rfl) ?_
      refine step_storeRow 7 62 (.tmp 11) (.tmp 28) (by rfl) (by kernel_rfl) G11 rfl (pc F) rfl 62 (pc fun _ => 0) (HL.out.2.1) (info_poly.trans (size_poly _)) (by rw [pc_length, pc_length]) (pc_one _) ?_
      intro w23 r24 bt22 zbt22
      have HM : Shh (Below X8.heap.size X8 w23 ∧ Row w23 G11 62 (pc F) ∧ X8.heap.size ≤ G11 ∧ X8.heap.size ≤ G11 ∧ Row w23 G10 64 (vc E) ∧ X8.heap.size ≤ G10 ∧ ¬ G10 = G11) := by
       obtain ⟨h0, h1, h2, h3, h4, h5, h6⟩ := HL.out
       have := h1.lt
       have := h4.lt
       have := h0.size
       have hb := bt22.under (Nat.le_of_lt h1.lt) (Nat.le_refl _)
       have := hb.size
       exact ⟨h0.trans (bt22.under (by omega) (by omega)), r24, h2, h3, bt22.row h4 h4.lt (by omega), h5, h6⟩
      clear bt22 HL r24 zbt22
      refine ⟨trivial, ?_⟩
      refine wpAnyH_done (by kernel_rfl) ?_ _
      have HZ : Shh (Row w23 N 22 (Lib.byteCells m) ∧ Row w23 (N + 1) 22 (Lib.byteCells r) ∧ Sl w23 (N) (.slice AR rho.length cR) (rho) ∧ KVars w23 ∧ 0 < N ∧ Below N w w23 ∧ Row w23 G7 64 (vc T) ∧ N < G7 ∧ Row w23 G9 64 (vc Y) ∧ G7 < G9 ∧ Row w23 G10 64 (vc E) ∧ Row w23 G11 62 (pc F) ∧ G9 < G10 ∧ G9 < G11 ∧ ¬ G10 = G11) := by
       obtain ⟨h0, h1, h2, h3, h4, h5, h6, h7, h8, h9⟩ := HF.out
       obtain ⟨d0, d1, d2, d3, d4, d5, d6⟩ := HM.out
       have := h0.lt
       have := h1.lt
       have := h6.lt
       have := h8.lt
       have := d1.lt
       have := d4.lt
       have := d0.size
       exact ⟨h0.go d0, h1.go d0, h2.below (d0.mono (by omega)), h3.step d0, h4, h5.trans (d0.mono (by omega)), h6.go d0, h7, h8.go d0, h9, d4, d1, (by omega), (by omega), d6⟩
      clear HM
      revert HZ
      revert w23
      revert G11
      revert G10
      exact hT.out
     ·refine step_zeroV 4 10 (by rfl) (by kernel_rfl) ?_
      intro G10 w15 hG10 r16 b14
      have HJ : Shh (Below X8.heap.size X8 w15 ∧ Row w15 G11 62 (pc fun _ => 0) ∧ X8.heap.size ≤ G11 ∧ X8.heap.size ≤ G11 ∧ Row w15 G10 64 (vc zV) ∧ X8.heap.size ≤ G10 ∧ ¬ G10 = G11) := by
       obtain ⟨h0, h1, h2, h3⟩ := HI.out
       have := h1.lt
       have := b14.size
       have := h0.size
       have := hG10.out
       exact ⟨Below.chain h0 b14, h1.go b14, h2, h3, r16, (by omega), (by omega)⟩
      clear b14 HI r16 hG10
      refine ⟨trivial, ?_⟩
      simp only [Act.put, arr9, hd9, tl9]
      refine held_one 3 (by kernel_rfl) ?_
      refine step_call 3 _ _ (some 28) 50 #[.slice (some ⟨N + 1, 0, none⟩) 32 32, .int .i64 6] (by rfl) (by kernel_rfl) (by first | kernel_rfl | go_simp) ?_
      refine (HN6.out w15 (N + 1 + 1) _ (Sl.of_bytes ((Row.go HF.out.2.1 HJ.out.1)) (Nat.lt_succ_self _) HLL.out.2.2.1 (by decide)) ((Row.go HF.out.2.1 HJ.out.1)).lt (HF.out.2.2.2.1.step HJ.out.1)).mono ?_
      rintro e w18 ⟨rfl, b17⟩
      have HK : Shh (Below X8.heap.size X8 w18 ∧ Row w18 G11 62 (pc fun _ => 0) ∧ X8.heap.size ≤ G11 ∧ X8.heap.size ≤ G11 ∧ Row w18 G10 64 (vc zV) ∧ X8.heap.size ≤ G10 ∧ ¬ G10 = G11) := by
       obtain ⟨h0, h1, h2, h3, h4, h5, h6⟩ := HJ.out
       have := h1.lt
       have := h4.lt
       have := b17.size
       have := h0.size
       exact ⟨Below.chain h0 b17, h1.go b17, h2, h3, h4.go b17, h5, h6⟩
      clear b17 HJ
      refine ⟨_, rfl, trivial, ?_⟩
      simp only [Act.put, arr9, hd9, tl9]
      refine held_one 6 (by kernel_rfl) ?_
      refine step_storeRow 6 64 (.tmp 10) (.tmp 26) (by rfl) (by kernel_rfl) G10 rfl (vc E) rfl 64 (vc zV) (HK.out.2.2.2.2.1) (info_vec.trans (size_vec _)) (by rw [vc_length, vc_length]) (vc_one _) ?_
      intro w20 r21 bt19 zbt19
      have HL : Shh (Below X8.heap.size X8 w20 ∧ Row w20 G11 62 (pc fun _ => 0) ∧ X8.heap.size ≤ G11 ∧ X8.heap.size ≤ G11 ∧ Row w20 G10 64 (vc E) ∧ X8.heap.size ≤ G10 ∧ ¬ G10 = G11) := by
       obtain ⟨h0, h1, h2, h3, h4, h5, h6⟩ := HK.out
       have := h1.lt
       have := h4.lt
       have := h0.size
       have hb := bt19.under (Nat.le_of_lt h4.lt) (Nat.le_refl _)
       have := hb.size
       exact ⟨h0.trans (bt19.under (by omega) (by omega)), bt19.row h1 h1.lt (by omega), h2, h3, r21, h5, h6⟩
      clear bt19 HK r21 zbt19
      refine ⟨trivial, ?_⟩
      refine held_one 7 (by kernel_rfl) ?_
      refine step_storeRow 7 62 (.tmp 11) (.tmp 28) (by rfl) (by kernel_rfl) G11 rfl (pc F) rfl 62 (pc fun _ => 0) (HL.out.2.1) (info_poly.trans (size_poly _)) (by rw [pc_length, pc_length]) (pc_one _) ?_
      intro w23 r24 bt22 zbt22
      have HM : Shh (Below X8.heap.size X8 w23 ∧ Row w23 G11 62 (pc F) ∧ X8.heap.size ≤ G11 ∧ X8.heap.size ≤ G11 ∧ Row w23 G10 64 (vc E) ∧ X8.heap.size ≤ G10 ∧ ¬ G10 = G11) := by
       obtain ⟨h0, h1, h2, h3, h4, h5, h6⟩ := HL.out
       have := h1.lt
       have := h4.lt
       have := h0.size
       have hb := bt22.under (Nat.le_of_lt h1.lt) (Nat.le_refl _)
       have := hb.size
       exact ⟨h0.trans (bt22.under (by omega) (by omega)), r24, h2, h3, bt22.row h4 h4.lt (by omega), h5, h6⟩
      clear bt22 HL r24 zbt22
      refine ⟨trivial, ?_⟩
      refine wpAnyH_done (by kernel_rfl) ?_ _
      have HZ : Shh (Row w23 N 22 (Lib.byteCells m) ∧ Row w23 (N + 1) 22 (Lib.byteCells r) ∧ Sl w23 (N) (.slice AR rho.length cR) (rho) ∧ KVars w23 ∧ 0 < N ∧ Below N w w23 ∧ Row w23 G7 64 (vc T) ∧ N < G7 ∧ Row w23 G9 64 (vc Y) ∧ G7 < G9 ∧ Row w23 G10 64 (vc E) ∧ Row w23 G11 62 (pc F) ∧ G9 < G10 ∧ G9 < G11 ∧ ¬ G10 = G11) := by
       obtain ⟨h0, h1, h2, h3, h4, h5, h6, h7, h8, h9⟩ := HF.out
       obtain ⟨d0, d1, d2, d3, d4, d5, d6⟩ := HM.out
       have := h0.lt
       have := h1.lt
       have := h6.lt
       have := h8.lt
       have := d1.lt
       have := d4.lt
       have := d0.size
       exact ⟨h0.go d0, h1.go d0, h2.below (d0.mono (by omega)), h3.step d0, h4, h5.trans (d0.mono (by omega)), h6.go d0, h7, h8.go d0, h9, d4, d1, (by omega), (by omega), d6⟩
      clear HM
      revert HZ
      revert w23
      revert G11
      revert G10
      exact hT.out
   ·refine step_zeroV 4 10 (by rfl) (by kernel_rfl) ?_
    intro G10 w10 hG10 r11 b9
    have HH : Shh (Below X8.heap.size X8 w10 ∧ Row w10 G10 64 (vc zV) ∧ X8.heap.size ≤ G10 ∧ X8.heap.size ≤ G10) := by
     have h0 := HG.out
     have := b9.size
     have := h0.size
     have := hG10.out
     exact ⟨Below.chain h0 b9, r11, (by omega), (by omega)⟩
    clear b9 HG r11 hG10
    refine ⟨trivial, ?_⟩
    simp only [Act.put, arr9, hd9, tl9]
    refine held_two 1 5 (by kernel_rfl) ?_ ?_
    ·refine step_call 1 _ _ (some 26) 41 #[.slice (some ⟨N + 1, 0, none⟩) 32 32, .int .i64 3] (by rfl) (by kernel_rfl) (by first | kernel_rfl | go_simp) ?_
     refine (HN3.out w10 (N + 1 + 1) _ (Sl.of_bytes ((Row.go HF.out.2.1 HH.out.1)) (Nat.lt_succ_self _) HLL.out.2.2.1 (by decide)) ((Row.go HF.out.2.1 HH.out.1)).lt (HF.out.2.2.2.1.step HH.out.1)).mono ?_
     rintro e w13 ⟨rfl, b12⟩
     have HI : Shh (Below X8.heap.size X8 w13 ∧ Row w13 G10 64 (vc zV) ∧ X8.heap.size ≤ G10 ∧ X8.heap.size ≤ G10) := by
      obtain ⟨h0, h1, h2, h3⟩ := HH.out
      have := h1.lt
      have := b12.size
      have := h0.size
      exact ⟨Below.chain h0 b12, h1.go b12, h2, h3⟩
     clear b12 HH
     refine ⟨_, rfl, trivial, ?_⟩
     simp only [Act.put, arr9, hd9, tl9]
     refine held_two 3 5 (by kernel_rfl) ?_ ?_
     ·refine step_call 3 _ _ (some 28) 50 #[.slice (some ⟨N + 1, 0, none⟩) 32 32, .int .i64 6] (by rfl) (by kernel_rfl) (by first | kernel_rfl | go_simp) ?_
      refine (HN6.out w13 (N + 1 + 1) _ (Sl.of_bytes ((Row.go HF.out.2.1 HI.out.1)) (Nat.lt_succ_self _) HLL.out.2.2.1 (by decide)) ((Row.go HF.out.2.1 HI.out.1)).lt (HF.out.2.2.2.1.step HI.out.1)).mono ?_
      rintro e w15 ⟨rfl, b14⟩
      have HJ : Shh (Below X8.heap.size X8 w15 ∧ Row w15 G10 64 (vc zV) ∧ X8.heap.size ≤ G10 ∧ X8.heap.size ≤ G10) := by
       obtain ⟨h0, h1, h2, h3⟩ := HI.out
       have := h1.lt
       have := b14.size
       have := h0.size
       exact ⟨Below.chain h0 b14, h1.go b14, h2, h3⟩
      clear b14 HI
      refine ⟨_, rfl, trivial, ?_⟩
      simp only [Act.put, arr9, hd9, tl9]
      refine held_one 5 (by kernel_rfl) ?_
      refine step_zeroP 5 11 (by rfl) (by kernel_rfl) ?_
      intro G11 w17 hG11 r18 b16
      have HK : Shh (Below X8.heap.size X8 w17 ∧ Row w17 G10 64 (vc zV) ∧ X8.heap.size ≤ G10 ∧ X8.heap.size ≤ G10 ∧ Row w17 G11 62 (pc fun _ => 0) ∧ X8.heap.size ≤ G11 ∧ ¬ G10 = G11) := by
       obtain ⟨h0, h1, h2, h3⟩ := HJ.out
       have := h1.lt
       have := b16.size
       have := h0.size
       have := hG11.out
       exact ⟨Below.chain h0 b16, h1.go b16, h2, h3, r18, (by omega), (by omega)⟩
      clear b16 HJ r18 hG11
      refine ⟨trivial, ?_⟩
      simp only [Act.put, arr9, hd9, tl9]
      refine held_one 6 (by kernel_rfl) ?_
      refine step_storeRow 6 64 (.tmp 10) (.tmp 26) (by rfl) (by kernel_rfl) G10 rfl (vc E) rfl 64 (vc zV) (HK.out.2.1) (info_vec.trans (size_vec _)) (by rw [vc_length, vc_length]) (vc_one _) ?_
      intro w20 r21 bt19 zbt19
      have HL : Shh (Below X8.heap.size X8 w20 ∧ Row w20 G10 64 (vc E) ∧ X8.heap.size ≤ G10 ∧ X8.heap.size ≤ G10 ∧ Row w20 G11 62 (pc fun _ => 0) ∧ X8.heap.size ≤ G11 ∧ ¬ G10 = G11) := by
       obtain ⟨h0, h1, h2, h3, h4, h5, h6⟩ := HK.out
       have := h1.lt
       have := h4.lt
       have := h0.size
       have hb := bt19.under (Nat.le_of_lt h1.lt) (Nat.le_refl _)
       have := hb.size
       exact ⟨h0.trans (bt19.under (by omega) (by omega)), r21, h2, h3, bt19.row h4 h4.lt (by omega), h5, h6⟩
      clear bt19 HK r21 zbt19
      refine ⟨trivial, ?_⟩
      refine held_one 7 (by kernel_rfl) ?_
      refine step_storeRow 7 62 (.tmp 11) (.tmp 28) (by rfl) (by kernel_rfl) G11 rfl (pc F) rfl 62 (pc fun _ => 0) (HL.out.2.2.2.2.1) (info_poly.trans (size_poly _)) (by rw [pc_length, pc_length]) (pc_one _) ?_
      intro w23 r24 bt22 zbt22
      have HM : Shh (Below X8.heap.size X8 w23 ∧ Row w23 G10 64 (vc E) ∧ X8.heap.size ≤ G10 ∧ X8.heap.size ≤ G10 ∧ Row w23 G11 62 (pc F) ∧ X8.heap.size ≤ G11 ∧ ¬ G10 = G11) := by
       obtain ⟨h0, h1, h2, h3, h4, h5, h6⟩ := HL.out
       have := h1.lt
       have := h4.lt
       have := h0.size
       have hb := bt22.under (Nat.le_of_lt h4.lt) (Nat.le_refl _)
       have := hb.size
       exact ⟨h0.trans (bt22.under (by omega) (by omega)), bt22.row h1 h1.lt (by omega), h2, h3, r24, h5, h6⟩
      clear bt22 HL r24 zbt22
      refine ⟨trivial, ?_⟩
      refine wpAnyH_done (by kernel_rfl) ?_ _
      have HZ : Shh (Row w23 N 22 (Lib.byteCells m) ∧ Row w23 (N + 1) 22 (Lib.byteCells r) ∧ Sl w23 (N) (.slice AR rho.length cR) (rho) ∧ KVars w23 ∧ 0 < N ∧ Below N w w23 ∧ Row w23 G7 64 (vc T) ∧ N < G7 ∧ Row w23 G9 64 (vc Y) ∧ G7 < G9 ∧ Row w23 G10 64 (vc E) ∧ Row w23 G11 62 (pc F) ∧ G9 < G10 ∧ G9 < G11 ∧ ¬ G10 = G11) := by
       obtain ⟨h0, h1, h2, h3, h4, h5, h6, h7, h8, h9⟩ := HF.out
       obtain ⟨d0, d1, d2, d3, d4, d5, d6⟩ := HM.out
       have := h0.lt
       have := h1.lt
       have := h6.lt
       have := h8.lt
       have := d1.lt
       have := d4.lt
       have := d0.size
       exact ⟨h0.go d0, h1.go d0, h2.below (d0.mono (by omega)), h3.step d0, h4, h5.trans (d0.mono (by omega)), h6.go d0, h7, h8.go d0, h9, d1, d4, (by omega), (by omega), d6⟩
      clear HM
      revert HZ
      revert w23
      revert G11
      revert G10
      exact hT.out
     ·refine step_zeroP 5 11 (by rfl) (by kernel_rfl) ?_
      intro G11 w15 hG11 r16 b14
      have HJ : Shh (Below X8.heap.size X8 w15 ∧ Row w15 G10 64 (vc zV) ∧ X8.heap.size ≤ G10 ∧ X8.heap.size ≤ G10 ∧ Row w15 G11 62 (pc fun _ => 0) ∧ X8.heap.size ≤ G11 ∧ ¬ G10 = G11) := by
       obtain ⟨h0, h1, h2, h3⟩ := HI.out
       have := h1.lt
       have := b14.size
       have := h0.size
       have := hG11.out
       exact ⟨Below.chain h0 b14, h1.go b14, h2, h3, r16, (by omega), (by omega)⟩
      clear b14 HI r16 hG11
      refine ⟨trivial, ?_⟩
      simp only [Act.put, arr9, hd9, tl9]
      refine held_one 3 (by kernel_rfl) ?_
      refine step_call 3 _ _ (some 28) 50 #[.slice (some ⟨N + 1, 0, none⟩) 32 32, .int .i64 6] (by rfl) (by kernel_rfl) (by first | kernel_rfl | go_simp) ?_
      refine (HN6.out w15 (N + 1 + 1) _ (Sl.of_bytes ((Row.go HF.out.2.1 HJ.out.1)) (Nat.lt_succ_self _) HLL.out.2.2.1 (by decide)) ((Row.go HF.out.2.1 HJ.out.1)).lt (HF.out.2.2.2.1.step HJ.out.1)).mono ?_
      rintro e w18 ⟨rfl, b17⟩
      have HK : Shh (Below X8.heap.size X8 w18 ∧ Row w18 G10 64 (vc zV) ∧ X8.heap.size ≤ G10 ∧ X8.heap.size ≤ G10 ∧ Row w18 G11 62 (pc fun _ => 0) ∧ X8.heap.size ≤ G11 ∧ ¬ G10 = G11) := by
       obtain ⟨h0, h1, h2, h3, h4, h5, h6⟩ := HJ.out
       have := h1.lt
       have := h4.lt
       have := b17.size
       have := h0.size
       exact ⟨Below.chain h0 b17, h1.go b17, h2, h3, h4.go b17, h5, h6⟩
      clear b17 HJ
      refine ⟨_, rfl, trivial, ?_⟩
      simp only [Act.put, arr9, hd9, tl9]
      refine held_one 6 (by kernel_rfl) ?_
      refine step_storeRow 6 64 (.tmp 10) (.tmp 26) (by rfl) (by kernel_rfl) G10 rfl (vc E) rfl 64 (vc zV) (HK.out.2.1) (info_vec.trans (size_vec _)) (by rw [vc_length, vc_length]) (vc_one _) ?_
      intro w20 r21 bt19 zbt19
      have HL : Shh (Below X8.heap.size X8 w20 ∧ Row w20 G10 64 (vc E) ∧ X8.heap.size ≤ G10 ∧ X8.heap.size ≤ G10 ∧ Row w20 G11 62 (pc fun _ => 0) ∧ X8.heap.size ≤ G11 ∧ ¬ G10 = G11) := by
       obtain ⟨h0, h1, h2, h3, h4, h5, h6⟩ := HK.out
       have := h1.lt
       have := h4.lt
       have := h0.size
       have hb := bt19.under (Nat.le_of_lt h1.lt) (Nat.le_refl _)
       have := hb.size
       exact ⟨h0.trans (bt19.under (by omega) (by omega)), r21, h2, h3, bt19.row h4 h4.lt (by omega), h5, h6⟩
      clear bt19 HK r21 zbt19
      refine ⟨trivial, ?_⟩
      refine held_one 7 (by kernel_rfl) ?_
      refine step_storeRow 7 62 (.tmp 11) (.tmp 28) (by rfl) (by kernel_rfl) G11 rfl (pc F) rfl 62 (pc fun _ => 0) (HL.out.2.2.2.2.1) (info_poly.trans (size_poly _)) (by rw [pc_length, pc_length]) (pc_one _) ?_
      intro w23 r24 bt22 zbt22
      have HM : Shh (Below X8.heap.size X8 w23 ∧ Row w23 G10 64 (vc E) ∧ X8.heap.size ≤ G10 ∧ X8.heap.size ≤ G10 ∧ Row w23 G11 62 (pc F) ∧ X8.heap.size ≤ G11 ∧ ¬ G10 = G11) := by
       obtain ⟨h0, h1, h2, h3, h4, h5, h6⟩ := HL.out
       have := h1.lt
       have := h4.lt
       have := h0.size
       have hb := bt22.under (Nat.le_of_lt h4.lt) (Nat.le_refl _)
       have := hb.size
       exact ⟨h0.trans (bt22.under (by omega) (by omega)), bt22.row h1 h1.lt (by omega), h2, h3, r24, h5, h6⟩
      clear bt22 HL r24 zbt22
      refine ⟨trivial, ?_⟩
      refine wpAnyH_done (by kernel_rfl) ?_ _
      have HZ : Shh (Row w23 N 22 (Lib.byteCells m) ∧ Row w23 (N + 1) 22 (Lib.byteCells r) ∧ Sl w23 (N) (.slice AR rho.length cR) (rho) ∧ KVars w23 ∧ 0 < N ∧ Below N w w23 ∧ Row w23 G7 64 (vc T) ∧ N < G7 ∧ Row w23 G9 64 (vc Y) ∧ G7 < G9 ∧ Row w23 G10 64 (vc E) ∧ Row w23 G11 62 (pc F) ∧ G9 < G10 ∧ G9 < G11 ∧ ¬ G10 = G11) := by
       obtain ⟨h0, h1, h2, h3, h4, h5, h6, h7, h8, h9⟩ := HF.out
       obtain ⟨d0, d1, d2, d3, d4, d5, d6⟩ := HM.out
       have := h0.lt
       have := h1.lt
       have := h6.lt
       have := h8.lt
       have := d1.lt
       have := d4.lt
       have := d0.size
       exact ⟨h0.go d0, h1.go d0, h2.below (d0.mono (by omega)), h3.step d0, h4, h5.trans (d0.mono (by omega)), h6.go d0, h7, h8.go d0, h9, d1, d4, (by omega), (by omega), d6⟩
      clear HM
      revert HZ
      revert w23
      revert G11
      revert G10
      exact hT.out
    ·refine step_zeroP 5 11 (by rfl) (by kernel_rfl) ?_
     intro G11 w13 hG11 r14 b12
     have HI : Shh (Below X8.heap.size X8 w13 ∧ Row w13 G10 64 (vc zV) ∧ X8.heap.size ≤ G10 ∧ X8.heap.size ≤ G10 ∧ Row w13 G11 62 (pc fun _ => 0) ∧ X8.heap.size ≤ G11 ∧ ¬ G10 = G11) := by
      obtain ⟨h0, h1, h2, h3⟩ := HH.out
      have := h1.lt
      have := b12.size
      have := h0.size
      have := hG11.out
      exact ⟨Below.chain h0 b12, h1.go b12, h2, h3, r14, (by omega), (by omega)⟩
     clear b12 HH r14 hG11
     refine ⟨trivial, ?_⟩
     simp only [Act.put, arr9, hd9, tl9]
     refine held_one 1 (by kernel_rfl) ?_
     refine step_call 1 _ _ (some 26) 41 #[.slice (some ⟨N + 1, 0, none⟩) 32 32, .int .i64 3] (by rfl) (by kernel_rfl) (by first | kernel_rfl | go_simp) ?_
     refine (HN3.out w13 (N + 1 + 1) _ (Sl.of_bytes ((Row.go HF.out.2.1 HI.out.1)) (Nat.lt_succ_self _) HLL.out.2.2.1 (by decide)) ((Row.go HF.out.2.1 HI.out.1)).lt (HF.out.2.2.2.1.step HI.out.1)).mono ?_
     rintro e w16 ⟨rfl, b15⟩
     have HJ : Shh (Below X8.heap.size X8 w16 ∧ Row w16 G10 64 (vc zV) ∧ X8.heap.size ≤ G10 ∧ X8.heap.size ≤ G10 ∧ Row w16 G11 62 (pc fun _ => 0) ∧ X8.heap.size ≤ G11 ∧ ¬ G10 = G11) := by
      obtain ⟨h0, h1, h2, h3, h4, h5, h6⟩ := HI.out
      have := h1.lt
      have := h4.lt
      have := b15.size
      have := h0.size
      exact ⟨Below.chain h0 b15, h1.go b15, h2, h3, h4.go b15, h5, h6⟩
     clear b15 HI
     refine ⟨_, rfl, trivial, ?_⟩
     simp only [Act.put, arr9, hd9, tl9]
     refine held_one 3 (by kernel_rfl) ?_
     refine step_call 3 _ _ (some 28) 50 #[.slice (some ⟨N + 1, 0, none⟩) 32 32, .int .i64 6] (by rfl) (by kernel_rfl) (by first | kernel_rfl | go_simp) ?_
     refine (HN6.out w16 (N + 1 + 1) _ (Sl.of_bytes ((Row.go HF.out.2.1 HJ.out.1)) (Nat.lt_succ_self _) HLL.out.2.2.1 (by decide)) ((Row.go HF.out.2.1 HJ.out.1)).lt (HF.out.2.2.2.1.step HJ.out.1)).mono ?_
     rintro e w18 ⟨rfl, b17⟩
     have HK : Shh (Below X8.heap.size X8 w18 ∧ Row w18 G10 64 (vc zV) ∧ X8.heap.size ≤ G10 ∧ X8.heap.size ≤ G10 ∧ Row w18 G11 62 (pc fun _ => 0) ∧ X8.heap.size ≤ G11 ∧ ¬ G10 = G11) := by
      obtain ⟨h0, h1, h2, h3, h4, h5, h6⟩ := HJ.out
      have := h1.lt
      have := h4.lt
      have := b17.size
      have := h0.size
      exact ⟨Below.chain h0 b17, h1.go b17, h2, h3, h4.go b17, h5, h6⟩
     clear b17 HJ
     refine ⟨_, rfl, trivial, ?_⟩
     simp only [Act.put, arr9, hd9, tl9]
     refine held_one 6 (by kernel_rfl) ?_
     refine step_storeRow 6 64 (.tmp 10) (.tmp 26) (by rfl) (by kernel_rfl) G10 rfl (vc E) rfl 64 (vc zV) (HK.out.2.1) (info_vec.trans (size_vec _)) (by rw [vc_length, vc_length]) (vc_one _) ?_
     intro w20 r21 bt19 zbt19
     have HL : Shh (Below X8.heap.size X8 w20 ∧ Row w20 G10 64 (vc E) ∧ X8.heap.size ≤ G10 ∧ X8.heap.size ≤ G10 ∧ Row w20 G11 62 (pc fun _ => 0) ∧ X8.heap.size ≤ G11 ∧ ¬ G10 = G11) := by
      obtain ⟨h0, h1, h2, h3, h4, h5, h6⟩ := HK.out
      have := h1.lt
      have := h4.lt
      have := h0.size
      have hb := bt19.under (Nat.le_of_lt h1.lt) (Nat.le_refl _)
      have := hb.size
      exact ⟨h0.trans (bt19.under (by omega) (by omega)), r21, h2, h3, bt19.row h4 h4.lt (by omega), h5, h6⟩
     clear bt19 HK r21 zbt19
     refine ⟨trivial, ?_⟩
     refine held_one 7 (by kernel_rfl) ?_
     refine step_storeRow 7 62 (.tmp 11) (.tmp 28) (by rfl) (by kernel_rfl) G11 rfl (pc F) rfl 62 (pc fun _ => 0) (HL.out.2.2.2.2.1) (info_poly.trans (size_poly _)) (by rw [pc_length, pc_length]) (pc_one _) ?_
     intro w23 r24 bt22 zbt22
     have HM : Shh (Below X8.heap.size X8 w23 ∧ Row w23 G10 64 (vc E) ∧ X8.heap.size ≤ G10 ∧ X8.heap.size ≤ G10 ∧ Row w23 G11 62 (pc F) ∧ X8.heap.size ≤ G11 ∧ ¬ G10 = G11) := by
      obtain ⟨h0, h1, h2, h3, h4, h5, h6⟩ := HL.out
      have := h1.lt
      have := h4.lt
      have := h0.size
      have hb := bt22.under (Nat.le_of_lt h4.lt) (Nat.le_refl _)
      have := hb.size
      exact ⟨h0.trans (bt22.under (by omega) (by omega)), bt22.row h1 h1.lt (by omega), h2, h3, r24, h5, h6⟩
     clear bt22 HL r24 zbt22
     refine ⟨trivial, ?_⟩
     refine wpAnyH_done (by kernel_rfl) ?_ _
     have HZ : Shh (Row w23 N 22 (Lib.byteCells m) ∧ Row w23 (N + 1) 22 (Lib.byteCells r) ∧ Sl w23 (N) (.slice AR rho.length cR) (rho) ∧ KVars w23 ∧ 0 < N ∧ Below N w w23 ∧ Row w23 G7 64 (vc T) ∧ N < G7 ∧ Row w23 G9 64 (vc Y) ∧ G7 < G9 ∧ Row w23 G10 64 (vc E) ∧ Row w23 G11 62 (pc F) ∧ G9 < G10 ∧ G9 < G11 ∧ ¬ G10 = G11) := by
      obtain ⟨h0, h1, h2, h3, h4, h5, h6, h7, h8, h9⟩ := HF.out
      obtain ⟨d0, d1, d2, d3, d4, d5, d6⟩ := HM.out
      have := h0.lt
      have := h1.lt
      have := h6.lt
      have := h8.lt
      have := d1.lt
      have := d4.lt
      have := d0.size
      exact ⟨h0.go d0, h1.go d0, h2.below (d0.mono (by omega)), h3.step d0, h4, h5.trans (d0.mono (by omega)), h6.go d0, h7, h8.go d0, h9, d1, d4, (by omega), (by omega), d6⟩
     clear HM
     revert HZ
     revert w23
     revert G11
     revert G10
     exact hT.out
   ·refine step_zeroP 5 11 (by rfl) (by kernel_rfl) ?_
    intro G11 w10 hG11 r11 b9
    have HH : Shh (Below X8.heap.size X8 w10 ∧ Row w10 G11 62 (pc fun _ => 0) ∧ X8.heap.size ≤ G11 ∧ X8.heap.size ≤ G11) := by
     have h0 := HG.out
     have := b9.size
     have := h0.size
     have := hG11.out
     exact ⟨Below.chain h0 b9, r11, (by omega), (by omega)⟩
    clear b9 HG r11 hG11
    refine ⟨trivial, ?_⟩
    simp only [Act.put, arr9, hd9, tl9]
    refine held_two 1 4 (by kernel_rfl) ?_ ?_
    ·refine step_call 1 _ _ (some 26) 41 #[.slice (some ⟨N + 1, 0, none⟩) 32 32, .int .i64 3] (by rfl) (by kernel_rfl) (by first | kernel_rfl | go_simp) ?_
     refine (HN3.out w10 (N + 1 + 1) _ (Sl.of_bytes ((Row.go HF.out.2.1 HH.out.1)) (Nat.lt_succ_self _) HLL.out.2.2.1 (by decide)) ((Row.go HF.out.2.1 HH.out.1)).lt (HF.out.2.2.2.1.step HH.out.1)).mono ?_
     rintro e w13 ⟨rfl, b12⟩
     have HI : Shh (Below X8.heap.size X8 w13 ∧ Row w13 G11 62 (pc fun _ => 0) ∧ X8.heap.size ≤ G11 ∧ X8.heap.size ≤ G11) := by
      obtain ⟨h0, h1, h2, h3⟩ := HH.out
      have := h1.lt
      have := b12.size
      have := h0.size
      exact ⟨Below.chain h0 b12, h1.go b12, h2, h3⟩
     clear b12 HH
     refine ⟨_, rfl, trivial, ?_⟩
     simp only [Act.put, arr9, hd9, tl9]
     refine held_two 3 4 (by kernel_rfl) ?_ ?_
     ·refine step_call 3 _ _ (some 28) 50 #[.slice (some ⟨N + 1, 0, none⟩) 32 32, .int .i64 6] (by rfl) (by kernel_rfl) (by first | kernel_rfl | go_simp) ?_
      refine (HN6.out w13 (N + 1 + 1) _ (Sl.of_bytes ((Row.go HF.out.2.1 HI.out.1)) (Nat.lt_succ_self _) HLL.out.2.2.1 (by decide)) ((Row.go HF.out.2.1 HI.out.1)).lt (HF.out.2.2.2.1.step HI.out.1)).mono ?_
      rintro e w15 ⟨rfl, b14⟩
      have HJ : Shh (Below X8.heap.size X8 w15 ∧ Row w15 G11 62 (pc fun _ => 0) ∧ X8.heap.size ≤ G11 ∧ X8.heap.size ≤ G11) := by
       obtain ⟨h0, h1, h2, h3⟩ := HI.out
       have := h1.lt
       have := b14.size
       have := h0.size
       exact ⟨Below.chain h0 b14, h1.go b14, h2, h3⟩
      clear b14 HI
      refine ⟨_, rfl, trivial, ?_⟩
      simp only [Act.put, arr9, hd9, tl9]
      refine held_one 4 (by kernel_rfl) ?_
      refine step_zeroV 4 10 (by rfl) (by kernel_rfl) ?_
      intro G10 w17 hG10 r18 b16
      have HK : Shh (Below X8.heap.size X8 w17 ∧ Row w17 G11 62 (pc fun _ => 0) ∧ X8.heap.size ≤ G11 ∧ X8.heap.size ≤ G11 ∧ Row w17 G10 64 (vc zV) ∧ X8.heap.size ≤ G10 ∧ ¬ G10 = G11) := by
       obtain ⟨h0, h1, h2, h3⟩ := HJ.out
       have := h1.lt
       have := b16.size
       have := h0.size
       have := hG10.out
       exact ⟨Below.chain h0 b16, h1.go b16, h2, h3, r18, (by omega), (by omega)⟩
      clear b16 HJ r18 hG10
      refine ⟨trivial, ?_⟩
      simp only [Act.put, arr9, hd9, tl9]
      refine held_one 6 (by kernel_rfl) ?_
      refine step_storeRow 6 64 (.tmp 10) (.tmp 26) (by rfl) (by kernel_rfl) G10 rfl (vc E) rfl 64 (vc zV) (HK.out.2.2.2.2.1) (info_vec.trans (size_vec _)) (by rw [vc_length, vc_length]) (vc_one _) ?_
      intro w20 r21 bt19 zbt19
      have HL : Shh (Below X8.heap.size X8 w20 ∧ Row w20 G11 62 (pc fun _ => 0) ∧ X8.heap.size ≤ G11 ∧ X8.heap.size ≤ G11 ∧ Row w20 G10 64 (vc E) ∧ X8.heap.size ≤ G10 ∧ ¬ G10 = G11) := by
       obtain ⟨h0, h1, h2, h3, h4, h5, h6⟩ := HK.out
       have := h1.lt
       have := h4.lt
       have := h0.size
       have hb := bt19.under (Nat.le_of_lt h4.lt) (Nat.le_refl _)
       have := hb.size
       exact ⟨h0.trans (bt19.under (by omega) (by omega)), bt19.row h1 h1.lt (by omega), h2, h3, r21, h5, h6⟩
      clear bt19 HK r21 zbt19
      refine ⟨trivial, ?_⟩
      refine held_one 7 (by kernel_rfl) ?_
      refine step_storeRow 7 62 (.tmp 11) (.tmp 28) (by rfl) (by kernel_rfl) G11 rfl (pc F) rfl 62 (pc fun _ => 0) (HL.out.2.1) (info_poly.trans (size_poly _)) (by rw [pc_length, pc_length]) (pc_one _) ?_
      intro w23 r24 bt22 zbt22
      have HM : Shh (Below X8.heap.size X8 w23 ∧ Row w23 G11 62 (pc F) ∧ X8.heap.size ≤ G11 ∧ X8.heap.size ≤ G11 ∧ Row w23 G10 64 (vc E) ∧ X8.heap.size ≤ G10 ∧ ¬ G10 = G11) := by
       obtain ⟨h0, h1, h2, h3, h4, h5, h6⟩ := HL.out
       have := h1.lt
       have := h4.lt
       have := h0.size
       have hb := bt22.under (Nat.le_of_lt h1.lt) (Nat.le_refl _)
       have := hb.size
       exact ⟨h0.trans (bt22.under (by omega) (by omega)), r24, h2, h3, bt22.row h4 h4.lt (by omega), h5, h6⟩
      clear bt22 HL r24 zbt22
      refine ⟨trivial, ?_⟩
      refine wpAnyH_done (by kernel_rfl) ?_ _
      have HZ : Shh (Row w23 N 22 (Lib.byteCells m) ∧ Row w23 (N + 1) 22 (Lib.byteCells r) ∧ Sl w23 (N) (.slice AR rho.length cR) (rho) ∧ KVars w23 ∧ 0 < N ∧ Below N w w23 ∧ Row w23 G7 64 (vc T) ∧ N < G7 ∧ Row w23 G9 64 (vc Y) ∧ G7 < G9 ∧ Row w23 G10 64 (vc E) ∧ Row w23 G11 62 (pc F) ∧ G9 < G10 ∧ G9 < G11 ∧ ¬ G10 = G11) := by
       obtain ⟨h0, h1, h2, h3, h4, h5, h6, h7, h8, h9⟩ := HF.out
       obtain ⟨d0, d1, d2, d3, d4, d5, d6⟩ := HM.out
       have := h0.lt
       have := h1.lt
       have := h6.lt
       have := h8.lt
       have := d1.lt
       have := d4.lt
       have := d0.size
       exact ⟨h0.go d0, h1.go d0, h2.below (d0.mono (by omega)), h3.step d0, h4, h5.trans (d0.mono (by omega)), h6.go d0, h7, h8.go d0, h9, d4, d1, (by omega), (by omega), d6⟩
      clear HM
      revert HZ
      revert w23
      revert G11
      revert G10
      exact hT.out
     ·refine step_zeroV 4 10 (by rfl) (by kernel_rfl) ?_
      intro G10 w15 hG10 r16 b14
      have HJ : Shh (Below X8.heap.size X8 w15 ∧ Row w15 G11 62 (pc fun _ => 0) ∧ X8.heap.size ≤ G11 ∧ X8.heap.size ≤ G11 ∧ Row w15 G10 64 (vc zV) ∧ X8.heap.size ≤ G10 ∧ ¬ G10 = G11) := by
       obtain ⟨h0, h1, h2, h3⟩ := HI.out
       have := h1.lt
       have := b14.size
       have := h0.size
       have := hG10.out
       exact ⟨Below.chain h0 b14, h1.go b14, h2, h3, r16, (by omega), (by omega)⟩
      clear b14 HI r16 hG10
      refine ⟨trivial, ?_⟩
      simp only [Act.put, arr9, hd9, tl9]
      refine held_one 3 (by kernel_rfl) ?_
      refine step_call 3 _ _ (some 28) 50 #[.slice (some ⟨N + 1, 0, none⟩) 32 32, .int .i64 6] (by rfl) (by kernel_rfl) (by first | kernel_rfl | go_simp) ?_
      refine (HN6.out w15 (N + 1 + 1) _ (Sl.of_bytes ((Row.go HF.out.2.1 HJ.out.1)) (Nat.lt_succ_self _) HLL.out.2.2.1 (by decide)) ((Row.go HF.out.2.1 HJ.out.1)).lt (HF.out.2.2.2.1.step HJ.out.1)).mono ?_
      rintro e w18 ⟨rfl, b17⟩
      have HK : Shh (Below X8.heap.size X8 w18 ∧ Row w18 G11 62 (pc fun _ => 0) ∧ X8.heap.size ≤ G11 ∧ X8.heap.size ≤ G11 ∧ Row w18 G10 64 (vc zV) ∧ X8.heap.size ≤ G10 ∧ ¬ G10 = G11) := by
       obtain ⟨h0, h1, h2, h3, h4, h5, h6⟩ := HJ.out
       have := h1.lt
       have := h4.lt
       have := b17.size
       have := h0.size
       exact ⟨Below.chain h0 b17, h1.go b17, h2, h3, h4.go b17, h5, h6⟩
      clear b17 HJ
      refine ⟨_, rfl, trivial, ?_⟩
      simp only [Act.put, arr9, hd9, tl9]
      refine held_one 6 (by kernel_rfl) ?_
      refine step_storeRow 6 64 (.tmp 10) (.tmp 26) (by rfl) (by kernel_rfl) G10 rfl (vc E) rfl 64 (vc zV) (HK.out.2.2.2.2.1) (info_vec.trans (size_vec _)) (by rw [vc_length, vc_length]) (vc_one _) ?_
      intro w20 r21 bt19 zbt19
      have HL : Shh (Below X8.heap.size X8 w20 ∧ Row w20 G11 62 (pc fun _ => 0) ∧ X8.heap.size ≤ G11 ∧ X8.heap.size ≤ G11 ∧ Row w20 G10 64 (vc E) ∧ X8.heap.size ≤ G10 ∧ ¬ G10 = G11) := by
       obtain ⟨h0, h1, h2, h3, h4, h5, h6⟩ := HK.out
       have := h1.lt
       have := h4.lt
       have := h0.size
       have hb := bt19.under (Nat.le_of_lt h4.lt) (Nat.le_refl _)
       have := hb.size
       exact ⟨h0.trans (bt19.under (by omega) (by omega)), bt19.row h1 h1.lt (by omega), h2, h3, r21, h5, h6⟩
      clear bt19 HK r21 zbt19
      refine ⟨trivial, ?_⟩
      refine held_one 7 (by kernel_rfl) ?_
      refine step_storeRow 7 62 (.tmp 11) (.tmp 28) (by rfl) (by kernel_rfl) G11 rfl (pc F) rfl 62 (pc fun _ => 0) (HL.out.2.1) (info_poly.trans (size_poly _)) (by rw [pc_length, pc_length]) (pc_one _) ?_
      intro w23 r24 bt22 zbt22
      have HM : Shh (Below X8.heap.size X8 w23 ∧ Row w23 G11 62 (pc F) ∧ X8.heap.size ≤ G11 ∧ X8.heap.size ≤ G11 ∧ Row w23 G10 64 (vc E) ∧ X8.heap.size ≤ G10 ∧ ¬ G10 = G11) := by
       obtain ⟨h0, h1, h2, h3, h4, h5, h6⟩ := HL.out
       have := h1.lt
       have := h4.lt
       have := h0.size
       have hb := bt22.under (Nat.le_of_lt h1.lt) (Nat.le_refl _)
       have := hb.size
       exact ⟨h0.trans (bt22.under (by omega) (by omega)), r24, h2, h3, bt22.row h4 h4.lt (by omega), h5, h6⟩
      clear bt22 HL r24 zbt22
      refine ⟨trivial, ?_⟩
      refine wpAnyH_done (by kernel_rfl) ?_ _
      have HZ : Shh (Row w23 N 22 (Lib.byteCells m) ∧ Row w23 (N + 1) 22 (Lib.byteCells r) ∧ Sl w23 (N) (.slice AR rho.length cR) (rho) ∧ KVars w23 ∧ 0 < N ∧ Below N w w23 ∧ Row w23 G7 64 (vc T) ∧ N < G7 ∧ Row w23 G9 64 (vc Y) ∧ G7 < G9 ∧ Row w23 G10 64 (vc E) ∧ Row w23 G11 62 (pc F) ∧ G9 < G10 ∧ G9 < G11 ∧ ¬ G10 = G11) := by
       obtain ⟨h0, h1, h2, h3, h4, h5, h6, h7, h8, h9⟩ := HF.out
       obtain ⟨d0, d1, d2, d3, d4, d5, d6⟩ := HM.out
       have := h0.lt
       have := h1.lt
       have := h6.lt
       have := h8.lt
       have := d1.lt
       have := d4.lt
       have := d0.size
       exact ⟨h0.go d0, h1.go d0, h2.below (d0.mono (by omega)), h3.step d0, h4, h5.trans (d0.mono (by omega)), h6.go d0, h7, h8.go d0, h9, d4, d1, (by omega), (by omega), d6⟩
      clear HM
      revert HZ
      revert w23
      revert G11
      revert G10
      exact hT.out
    ·refine step_zeroV 4 10 (by rfl) (by kernel_rfl) ?_
     intro G10 w13 hG10 r14 b12
     have HI : Shh (Below X8.heap.size X8 w13 ∧ Row w13 G11 62 (pc fun _ => 0) ∧ X8.heap.size ≤ G11 ∧ X8.heap.size ≤ G11 ∧ Row w13 G10 64 (vc zV) ∧ X8.heap.size ≤ G10 ∧ ¬ G10 = G11) := by
      obtain ⟨h0, h1, h2, h3⟩ := HH.out
      have := h1.lt
      have := b12.size
      have := h0.size
      have := hG10.out
      exact ⟨Below.chain h0 b12, h1.go b12, h2, h3, r14, (by omega), (by omega)⟩
     clear b12 HH r14 hG10
     refine ⟨trivial, ?_⟩
     simp only [Act.put, arr9, hd9, tl9]
     refine held_one 1 (by kernel_rfl) ?_
     refine step_call 1 _ _ (some 26) 41 #[.slice (some ⟨N + 1, 0, none⟩) 32 32, .int .i64 3] (by rfl) (by kernel_rfl) (by first | kernel_rfl | go_simp) ?_
     refine (HN3.out w13 (N + 1 + 1) _ (Sl.of_bytes ((Row.go HF.out.2.1 HI.out.1)) (Nat.lt_succ_self _) HLL.out.2.2.1 (by decide)) ((Row.go HF.out.2.1 HI.out.1)).lt (HF.out.2.2.2.1.step HI.out.1)).mono ?_
     rintro e w16 ⟨rfl, b15⟩
     have HJ : Shh (Below X8.heap.size X8 w16 ∧ Row w16 G11 62 (pc fun _ => 0) ∧ X8.heap.size ≤ G11 ∧ X8.heap.size ≤ G11 ∧ Row w16 G10 64 (vc zV) ∧ X8.heap.size ≤ G10 ∧ ¬ G10 = G11) := by
      obtain ⟨h0, h1, h2, h3, h4, h5, h6⟩ := HI.out
      have := h1.lt
      have := h4.lt
      have := b15.size
      have := h0.size
      exact ⟨Below.chain h0 b15, h1.go b15, h2, h3, h4.go b15, h5, h6⟩
     clear b15 HI
     refine ⟨_, rfl, trivial, ?_⟩
     simp only [Act.put, arr9, hd9, tl9]
     refine held_one 3 (by kernel_rfl) ?_
     refine step_call 3 _ _ (some 28) 50 #[.slice (some ⟨N + 1, 0, none⟩) 32 32, .int .i64 6] (by rfl) (by kernel_rfl) (by first | kernel_rfl | go_simp) ?_
     refine (HN6.out w16 (N + 1 + 1) _ (Sl.of_bytes ((Row.go HF.out.2.1 HJ.out.1)) (Nat.lt_succ_self _) HLL.out.2.2.1 (by decide)) ((Row.go HF.out.2.1 HJ.out.1)).lt (HF.out.2.2.2.1.step HJ.out.1)).mono ?_
     rintro e w18 ⟨rfl, b17⟩
     have HK : Shh (Below X8.heap.size X8 w18 ∧ Row w18 G11 62 (pc fun _ => 0) ∧ X8.heap.size ≤ G11 ∧ X8.heap.size ≤ G11 ∧ Row w18 G10 64 (vc zV) ∧ X8.heap.size ≤ G10 ∧ ¬ G10 = G11) := by
      obtain ⟨h0, h1, h2, h3, h4, h5, h6⟩ := HJ.out
      have := h1.lt
      have := h4.lt
      have := b17.size
      have := h0.size
      exact ⟨Below.chain h0 b17, h1.go b17, h2, h3, h4.go b17, h5, h6⟩
     clear b17 HJ
     refine ⟨_, rfl, trivial, ?_⟩
     simp only [Act.put, arr9, hd9, tl9]
     refine held_one 6 (by kernel_rfl) ?_
     refine step_storeRow 6 64 (.tmp 10) (.tmp 26) (by rfl) (by kernel_rfl) G10 rfl (vc E) rfl 64 (vc zV) (HK.out.2.2.2.2.1) (info_vec.trans (size_vec _)) (by rw [vc_length, vc_length]) (vc_one _) ?_
     intro w20 r21 bt19 zbt19
     have HL : Shh (Below X8.heap.size X8 w20 ∧ Row w20 G11 62 (pc fun _ => 0) ∧ X8.heap.size ≤ G11 ∧ X8.heap.size ≤ G11 ∧ Row w20 G10 64 (vc E) ∧ X8.heap.size ≤ G10 ∧ ¬ G10 = G11) := by
      obtain ⟨h0, h1, h2, h3, h4, h5, h6⟩ := HK.out
      have := h1.lt
      have := h4.lt
      have := h0.size
      have hb := bt19.under (Nat.le_of_lt h4.lt) (Nat.le_refl _)
      have := hb.size
      exact ⟨h0.trans (bt19.under (by omega) (by omega)), bt19.row h1 h1.lt (by omega), h2, h3, r21, h5, h6⟩
     clear bt19 HK r21 zbt19
     refine ⟨trivial, ?_⟩
     refine held_one 7 (by kernel_rfl) ?_
     refine step_storeRow 7 62 (.tmp 11) (.tmp 28) (by rfl) (by kernel_rfl) G11 rfl (pc F) rfl 62 (pc fun _ => 0) (HL.out.2.1) (info_poly.trans (size_poly _)) (by rw [pc_length, pc_length]) (pc_one _) ?_
     intro w23 r24 bt22 zbt22
     have HM : Shh (Below X8.heap.size X8 w23 ∧ Row w23 G11 62 (pc F) ∧ X8.heap.size ≤ G11 ∧ X8.heap.size ≤ G11 ∧ Row w23 G10 64 (vc E) ∧ X8.heap.size ≤ G10 ∧ ¬ G10 = G11) := by
      obtain ⟨h0, h1, h2, h3, h4, h5, h6⟩ := HL.out
      have := h1.lt
      have := h4.lt
      have := h0.size
      have hb := bt22.under (Nat.le_of_lt h1.lt) (Nat.le_refl _)
      have := hb.size
      exact ⟨h0.trans (bt22.under (by omega) (by omega)), r24, h2, h3, bt22.row h4 h4.lt (by omega), h5, h6⟩
     clear bt22 HL r24 zbt22
     refine ⟨trivial, ?_⟩
     refine wpAnyH_done (by kernel_rfl) ?_ _
     have HZ : Shh (Row w23 N 22 (Lib.byteCells m) ∧ Row w23 (N + 1) 22 (Lib.byteCells r) ∧ Sl w23 (N) (.slice AR rho.length cR) (rho) ∧ KVars w23 ∧ 0 < N ∧ Below N w w23 ∧ Row w23 G7 64 (vc T) ∧ N < G7 ∧ Row w23 G9 64 (vc Y) ∧ G7 < G9 ∧ Row w23 G10 64 (vc E) ∧ Row w23 G11 62 (pc F) ∧ G9 < G10 ∧ G9 < G11 ∧ ¬ G10 = G11) := by
      obtain ⟨h0, h1, h2, h3, h4, h5, h6, h7, h8, h9⟩ := HF.out
      obtain ⟨d0, d1, d2, d3, d4, d5, d6⟩ := HM.out
      have := h0.lt
      have := h1.lt
      have := h6.lt
      have := h8.lt
      have := d1.lt
      have := d4.lt
      have := d0.size
      exact ⟨h0.go d0, h1.go d0, h2.below (d0.mono (by omega)), h3.step d0, h4, h5.trans (d0.mono (by omega)), h6.go d0, h7, h8.go d0, h9, d4, d1, (by omega), (by omega), d6⟩
     clear HM
     revert HZ
     revert w23
     revert G11
     revert G10
     exact hT.out
  case tt3 =>
   clear HF
   intro G10 G11 X4 HA
   clear HN3 HN6
   go_wp2_with (refine wl_zeroV 12 rfl rfl rfl ?_)
   intro G12 w10 hG12 r11 b9
   simp only [Act.put, arr9, hd9, tl9]
   have HB : Shh (Row w10 N 22 (Lib.byteCells m) ∧ Row w10 (N + 1) 22 (Lib.byteCells r) ∧ Sl w10 (N) (.slice AR rho.length cR) (rho) ∧ KVars w10 ∧ 0 < N ∧ Below N w w10 ∧ Row w10 G7 64 (vc T) ∧ N < G7 ∧ Row w10 G9 64 (vc Y) ∧ G7 < G9 ∧ Row w10 G10 64 (vc E) ∧ Row w10 G11 62 (pc F) ∧ G9 < G10 ∧ G9 < G11 ∧ ¬ G10 = G11 ∧ Row w10 G12 64 (vc zV) ∧ G10 < G12 ∧ G11 < G12) := by
    obtain ⟨h0, h1, h2, h3, h4, h5, h6, h7, h8, h9, h10, h11, h12, h13, h14⟩ := HA.out
    have := h0.lt
    have := h1.lt
    have := h6.lt
    have := h8.lt
    have := h10.lt
    have := h11.lt
    have := b9.size
    have := hG12.out
    exact ⟨h0.go b9, h1.go b9, h2.below (b9.mono (by omega)), h3.step b9, h4, h5.trans (b9.mono (by omega)), h6.go b9, h7, h8.go b9, h9, h10.go b9, h11.go b9, h12, h13, h14, r11, (by omega), (by omega)⟩
   clear b9 HA r11 hG12
   go_wp2
   go_loopw [29] (fun cc wr => ∃ k : Nat, k ≤ 3 ∧ cc = .int .i64 (k : Int) ∧ (∀ j, j < k → okC j) ∧ Shh (Row wr N 22 (Lib.byteCells m) ∧ Row wr (N + 1) 22 (Lib.byteCells r) ∧ Sl wr (N) (.slice AR rho.length cR) (rho) ∧ KVars wr ∧ 0 < N ∧ Below N w wr ∧ Row wr G7 64 (vc T) ∧ N < G7 ∧ Row wr G9 64 (vc Y) ∧ G7 < G9 ∧ Row wr G10 64 (vc E) ∧ Row wr G11 62 (pc F) ∧ G9 < G10 ∧ G9 < G11 ∧ ¬ G10 = G11 ∧ Row wr G12 64 (vc (hfV U zV k)) ∧ G10 < G12 ∧ G11 < G12)) (fun cc _ => 3 - (intOf cc).toNat)
   case atStart => exact ⟨0, Nat.zero_le _, rfl, fun j hj => absurd hj (Nat.not_lt_zero j), ⟨by rw [hfV_zero]; exact HB.out⟩⟩
   case round =>
    clear HB
    obtain ⟨k, hk, rfl, hokk, HA⟩ := hrel
    by_cases hlt : k < 3
    ·have hlt2 : (k : Int) < 3 := by omega
     obtain ⟨O, hO⟩ : ∃ O, Shh (O = 256 * k) := ⟨_, ⟨rfl⟩⟩
     have HNX := Shh.mk (hfV_next U zV k)
     obtain ⟨CV, HC1, HP1, HI1, HA1⟩ : ∃ (CV : Nat → Nat → Nat), Shh (∀ W B' u, Sl W B' u rho → B' ≤ W.heap.size → KVars W → Calls Tryd.prog 52 #[u, .int .i64 (k : Int)] W (OrPan (okC k) W (VecIs W CV))) ∧ Shh (∀ W, Calls Tryd.prog 43 #[.agg (vc CV).toArray, .agg (vc Y).toArray] W (PolyIs W (prN CV Y 3))) ∧ Shh (∀ W, Calls Tryd.prog 51 #[.agg (pc (prN CV Y 3)).toArray] W (PolyIs W (invN (prN CV Y 3)))) ∧ Shh (∀ W, Calls Tryd.prog 42 #[.agg (pc (invN (prN CV Y 3))).toArray, .agg (pc (E k)).toArray] W (PolyIs W (U k))) := ⟨colV rho k, ⟨HCO.out k hlt⟩, ⟨HCP.out k hlt⟩, ⟨HCI.out k hlt⟩, ⟨HCA.out k hlt⟩⟩
     generalize invN (prN CV Y 3) = pi3 at *
     generalize prN CV Y 3 = pk3 at *
     go_wp2
     refine wp_region_held_drew (S := fun w' => Row w' G9 64 (vc Y) ∧ Row w' G10 64 (vc E)) (by kernel_rfl) ⟨HA.out.2.2.2.2.2.2.2.2.1.drew, HA.out.2.2.2.2.2.2.2.2.2.2.1.drew⟩ (fun hS => ?_)
     clear hS
     obtain ⟨X12, hX12⟩ : ∃ V, V = World.drew wr := ⟨_, rfl⟩
     rw [← hX12]
     have HB : Shh (Row X12 N 22 (Lib.byteCells m) ∧ Row X12 (N + 1) 22 (Lib.byteCells r) ∧ Sl X12 (N) (.slice AR rho.length cR) (rho) ∧ KVars X12 ∧ 0 < N ∧ Below N w X12 ∧ Row X12 G7 64 (vc T) ∧ N < G7 ∧ Row X12 G9 64 (vc Y) ∧ G7 < G9 ∧ Row X12 G10 64 (vc E) ∧ Row X12 G11 62 (pc F) ∧ G9 < G10 ∧ G9 < G11 ∧ ¬ G10 = G11 ∧ Row X12 G12 64 (vc (hfV U zV k)) ∧ G10 < G12 ∧ G11 < G12) := by
      obtain ⟨h0, h1, h2, h3, h4, h5, h6, h7, h8, h9, h10, h11, h12, h13, h14, h15, h16, h17⟩ := HA.out
      rw [hX12]
      exact ⟨h0.drew, h1.drew, h2.drew, h3.drew, h4, h5.drew, h6.drew, h7, h8.drew, h9, h10.drew, h11.drew, h12, h13, h14, h15.drew, h16, h17⟩
     clear hX12 HA
     refine hdv0 0 32 (.int .i64 (k : Int)) (by rfl) ⟨HB.out.2.2.2.2.2.2.2.2.1, HB.out.2.2.2.2.2.2.2.2.2.2.1⟩ ?_
     refine hdv0 1 33 (.slice AR rho.length cR) (by rfl) ⟨HB.out.2.2.2.2.2.2.2.2.1, HB.out.2.2.2.2.2.2.2.2.2.2.1⟩ ?_
     refine hdv0 2 34 (.int .i64 (k : Int)) (by rfl) ⟨HB.out.2.2.2.2.2.2.2.2.1, HB.out.2.2.2.2.2.2.2.2.2.2.1⟩ ?_
     refine held_load 4 64 (.tmp 9) (some 36) (by kernel_rfl) (by rfl) (by kernel_rfl) (G9) 0 (by kernel_rfl) (vc Y) _ (fun w h => h.1.range) Tryd.underlying64 rfl (info_vec.trans (size_vec _)) (fun _ _ _ _ h => h) ⟨HB.out.2.2.2.2.2.2.2.2.1, HB.out.2.2.2.2.2.2.2.2.2.2.1⟩ ?_
     simp only [Act.put, arr9, hd9, tl9]
     refine hdv0 7 39 (.int .i64 (k : Int)) (by rfl) ⟨HB.out.2.2.2.2.2.2.2.2.1, HB.out.2.2.2.2.2.2.2.2.2.2.1⟩ ?_
     refine hdv 8 40 (.pointer (some ⟨G10, O, none⟩)) (by rfl) (fun w hS => run_atV hlt hO.out rfl rfl rfl) ⟨HB.out.2.2.2.2.2.2.2.2.1, HB.out.2.2.2.2.2.2.2.2.2.2.1⟩ ?_
     refine held_load 9 62 (.tmp 40) (some 41) (by kernel_rfl) (by rfl) (by kernel_rfl) (G10) O (by kernel_rfl) (pc (E k)) _ (fun w h => by have hm := h.2.mid O 256; rw [hO.out, vc_piece E hlt, ← hO.out] at hm; exact hm) Tryd.underlying62 rfl (info_poly.trans (size_poly _)) (fun _ _ _ _ h => h) ⟨HB.out.2.2.2.2.2.2.2.2.1, HB.out.2.2.2.2.2.2.2.2.2.2.1⟩ ?_
     simp only [Act.put, arr9, hd9, tl9]
     refine held_one 3 (by kernel_rfl) ?_
     by_cases hok : okC k
     case neg =>
      refine step_panic 3 _ _ (some 35) 52 #[.slice AR rho.length cR, .int .i64 (k : Int)] (by rfl) (by kernel_rfl) (by first | kernel_rfl | go_simp) ?_
      refine (HC1.out X12 N _ HB.out.2.2.1 (by have := (HB.out.1).lt; omega) HB.out.2.2.2.1).mono ?_
      rintro e w13 ⟨_, h4⟩
      obtain ⟨rfl, b4⟩ := h4 hok
      have hb4 : Below N w w13 := (HB.out.2.2.2.2.2.1).trans (b4.mono (by have := (HB.out.1).lt; omega))
      refine ⟨_, rfl, ?_⟩
      go_wp2
      exact ⟨rfl, fun h => absurd (h k hlt) hok, fun _ => ⟨rfl, by rw [hN0.out]; exact hb4⟩⟩
     refine step_call 3 _ _ (some 35) 52 #[.slice AR rho.length cR, .int .i64 (k : Int)] (by rfl) (by kernel_rfl) (by first | kernel_rfl | go_simp) ?_
     refine (HC1.out X12 N _ HB.out.2.2.1 (by have := (HB.out.1).lt; omega) HB.out.2.2.2.1).mono ?_
     rintro e w14 ⟨h4, _⟩
     obtain ⟨rfl, b15⟩ := h4 hok
     clear h4
     have HC : Shh (Row w14 N 22 (Lib.byteCells m) ∧ Row w14 (N + 1) 22 (Lib.byteCells r) ∧ Sl w14 (N) (.slice AR rho.length cR) (rho) ∧ KVars w14 ∧ 0 < N ∧ Below N w w14 ∧ Row w14 G7 64 (vc T) ∧ N < G7 ∧ Row w14 G9 64 (vc Y) ∧ G7 < G9 ∧ Row w14 G10 64 (vc E) ∧ Row w14 G11 62 (pc F) ∧ G9 < G10 ∧ G9 < G11 ∧ ¬ G10 = G11 ∧ Row w14 G12 64 (vc (hfV U zV k)) ∧ G10 < G12 ∧ G11 < G12) := by
      obtain ⟨h0, h1, h2, h3, h4, h5, h6, h7, h8, h9, h10, h11, h12, h13, h14, h15, h16, h17⟩ := HB.out
      have := h0.lt
      have := h1.lt
      have := h6.lt
      have := h8.lt
      have := h10.lt
      have := h11.lt
      have := h15.lt
      have := b15.size
      exact ⟨h0.go b15, h1.go b15, h2.below (b15.mono (by omega)), h3.step b15, h4, h5.trans (b15.mono (by omega)), h6.go b15, h7, h8.go b15, h9, h10.go b15, h11.go b15, h12, h13, h14, h15.go b15, h16, h17⟩
     clear b15 HB
     refine ⟨_, rfl, ⟨HC.out.2.2.2.2.2.2.2.2.1, HC.out.2.2.2.2.2.2.2.2.2.2.1⟩, ?_⟩
     simp only [Act.put, arr9, hd9, tl9]
     refine held_one 5 (by kernel_rfl) ?_
     refine step_call 5 _ _ (some 37) 43 #[.agg (vc CV).toArray, .agg (vc Y).toArray] (by rfl) (by kernel_rfl) (by first | kernel_rfl | go_simp) ?_
     refine (HP1.out w14).mono ?_
     rintro e w17 ⟨rfl, b16⟩
     have HD : Shh (Row w17 N 22 (Lib.byteCells m) ∧ Row w17 (N + 1) 22 (Lib.byteCells r) ∧ Sl w17 (N) (.slice AR rho.length cR) (rho) ∧ KVars w17 ∧ 0 < N ∧ Below N w w17 ∧ Row w17 G7 64 (vc T) ∧ N < G7 ∧ Row w17 G9 64 (vc Y) ∧ G7 < G9 ∧ Row w17 G10 64 (vc E) ∧ Row w17 G11 62 (pc F) ∧ G9 < G10 ∧ G9 < G11 ∧ ¬ G10 = G11 ∧ Row w17 G12 64 (vc (hfV U zV k)) ∧ G10 < G12 ∧ G11 < G12) := by
      obtain ⟨h0, h1, h2, h3, h4, h5, h6, h7, h8, h9, h10, h11, h12, h13, h14, h15, h16, h17⟩ := HC.out
      have := h0.lt
      have := h1.lt
      have := h6.lt
      have := h8.lt
      have := h10.lt
      have := h11.lt
      have := h15.lt
      have := b16.size
      exact ⟨h0.go b16, h1.go b16, h2.below (b16.mono (by omega)), h3.step b16, h4, h5.trans (b16.mono (by omega)), h6.go b16, h7, h8.go b16, h9, h10.go b16, h11.go b16, h12, h13, h14, h15.go b16, h16, h17⟩
     clear b16 HC
     refine ⟨_, rfl, ⟨HD.out.2.2.2.2.2.2.2.2.1, HD.out.2.2.2.2.2.2.2.2.2.2.1⟩, ?_⟩
     simp only [Act.put, arr9, hd9, tl9]
     refine held_one 6 (by kernel_rfl) ?_
     refine step_call 6 _ _ (some 38) 51 #[.agg (pc pk3).toArray] (by rfl) (by kernel_rfl) (by first | kernel_rfl | go_simp) ?_
     refine (HI1.out w17).mono ?_
     rintro e w19 ⟨rfl, b18⟩
     have HE : Shh (Row w19 N 22 (Lib.byteCells m) ∧ Row w19 (N + 1) 22 (Lib.byteCells r) ∧ Sl w19 (N) (.slice AR rho.length cR) (rho) ∧ KVars w19 ∧ 0 < N ∧ Below N w w19 ∧ Row w19 G7 64 (vc T) ∧ N < G7 ∧ Row w19 G9 64 (vc Y) ∧ G7 < G9 ∧ Row w19 G10 64 (vc E) ∧ Row w19 G11 62 (pc F) ∧ G9 < G10 ∧ G9 < G11 ∧ ¬ G10 = G11 ∧ Row w19 G12 64 (vc (hfV U zV k)) ∧ G10 < G12 ∧ G11 < G12) := by
      obtain ⟨h0, h1, h2, h3, h4, h5, h6, h7, h8, h9, h10, h11, h12, h13, h14, h15, h16, h17⟩ := HD.out
      have := h0.lt
      have := h1.lt
      have := h6.lt
      have := h8.lt
      have := h10.lt
      have := h11.lt
      have := h15.lt
      have := b18.size
      exact ⟨h0.go b18, h1.go b18, h2.below (b18.mono (by omega)), h3.step b18, h4, h5.trans (b18.mono (by omega)), h6.go b18, h7, h8.go b18, h9, h10.go b18, h11.go b18, h12, h13, h14, h15.go b18, h16, h17⟩
     clear b18 HD
     refine ⟨_, rfl, ⟨HE.out.2.2.2.2.2.2.2.2.1, HE.out.2.2.2.2.2.2.2.2.2.2.1⟩, ?_⟩
     simp only [Act.put, arr9, hd9, tl9]
     refine held_one 10 (by kernel_rfl) ?_
     refine step_call 10 _ _ (some 42) 42 #[.agg (pc pi3).toArray, .agg (pc (E k)).toArray] (by rfl) (by kernel_rfl) (by first | kernel_rfl | go_simp) ?_
     refine (HA1.out w19).mono ?_
     rintro e w21 ⟨rfl, b20⟩
     have HF : Shh (Row w21 N 22 (Lib.byteCells m) ∧ Row w21 (N + 1) 22 (Lib.byteCells r) ∧ Sl w21 (N) (.slice AR rho.length cR) (rho) ∧ KVars w21 ∧ 0 < N ∧ Below N w w21 ∧ Row w21 G7 64 (vc T) ∧ N < G7 ∧ Row w21 G9 64 (vc Y) ∧ G7 < G9 ∧ Row w21 G10 64 (vc E) ∧ Row w21 G11 62 (pc F) ∧ G9 < G10 ∧ G9 < G11 ∧ ¬ G10 = G11 ∧ Row w21 G12 64 (vc (hfV U zV k)) ∧ G10 < G12 ∧ G11 < G12) := by
      obtain ⟨h0, h1, h2, h3, h4, h5, h6, h7, h8, h9, h10, h11, h12, h13, h14, h15, h16, h17⟩ := HE.out
      have := h0.lt
      have := h1.lt
      have := h6.lt
      have := h8.lt
      have := h10.lt
      have := h11.lt
      have := h15.lt
      have := b20.size
      exact ⟨h0.go b20, h1.go b20, h2.below (b20.mono (by omega)), h3.step b20, h4, h5.trans (b20.mono (by omega)), h6.go b20, h7, h8.go b20, h9, h10.go b20, h11.go b20, h12, h13, h14, h15.go b20, h16, h17⟩
     clear b20 HE
     refine ⟨_, rfl, ⟨HF.out.2.2.2.2.2.2.2.2.1, HF.out.2.2.2.2.2.2.2.2.2.2.1⟩, ?_⟩
     simp only [Act.put, arr9, hd9, tl9]
     refine hdv 11 43 (.pointer (some ⟨G12, O, none⟩)) (by rfl) (fun w hS => run_atV hlt hO.out rfl rfl rfl) ⟨HF.out.2.2.2.2.2.2.2.2.1, HF.out.2.2.2.2.2.2.2.2.2.2.1⟩ ?_
     refine held_one 12 (by kernel_rfl) ?_
     refine step_storeE (q := U k) (g := G12) 12 (.tmp 43) (.tmp 42) (by rfl) (by kernel_rfl) hlt hO.out (by kernel_rfl) (by kernel_rfl) (HF.out.2.2.2.2.2.2.2.2.2.2.2.2.2.2.2.1) ?_
     intro w23 r24 bt22 zbt22
     have HG : Shh (Row w23 N 22 (Lib.byteCells m) ∧ Row w23 (N + 1) 22 (Lib.byteCells r) ∧ Sl w23 (N) (.slice AR rho.length cR) (rho) ∧ KVars w23 ∧ 0 < N ∧ Below N w w23 ∧ Row w23 G7 64 (vc T) ∧ N < G7 ∧ Row w23 G9 64 (vc Y) ∧ G7 < G9 ∧ Row w23 G10 64 (vc E) ∧ Row w23 G11 62 (pc F) ∧ G9 < G10 ∧ G9 < G11 ∧ ¬ G10 = G11 ∧ Row w23 G12 64 (vc (hfV U zV (k + 1))) ∧ G10 < G12 ∧ G11 < G12) := by
      obtain ⟨h0, h1, h2, h3, h4, h5, h6, h7, h8, h9, h10, h11, h12, h13, h14, h15, h16, h17⟩ := HF.out
      have := h0.lt
      have := h1.lt
      have := h6.lt
      have := h8.lt
      have := h10.lt
      have := h11.lt
      have := h15.lt
      have hb := bt22.under (Nat.le_of_lt h15.lt) (Nat.le_refl _)
      have := hb.size
      rw [HNX.out] at r24
      exact ⟨bt22.row h0 h0.lt (by omega), bt22.row h1 h1.lt (by omega), h2.below (hb.mono (by omega)), h3.but bt22 (by omega), h4, h5.trans (hb.mono (by omega)), bt22.row h6 h6.lt (by omega), h7, bt22.row h8 h8.lt (by omega), h9, bt22.row h10 h10.lt (by omega), bt22.row h11 h11.lt (by omega), h12, h13, h14, r24, h16, h17⟩
     clear bt22 HF r24 zbt22
     refine ⟨⟨HG.out.2.2.2.2.2.2.2.2.1, HG.out.2.2.2.2.2.2.2.2.2.2.1⟩, ?_⟩
     refine wpAnyH_done (by kernel_rfl) ?_ _
     go_wp2
     go_roundw
     case rel => exact ⟨k + 1, by omega, by go_num, fun j hj => by
      by_cases h : j = k
      ·rw [h]; exact hok
      ·exact hokk j (by omega), HG⟩
     case measure => simp [intOf]; omega
    ·have HL : Shh (vc (hfV U zV k) = vc U) := ⟨by rw [show k = 3 by omega]; exact hfV_all _ _⟩
     rw [HL.out] at HA
     have HOK : Shh (∀ i : Nat, i < 3 → okC i) := ⟨fun i hi => hokk i (by omega)⟩
     have hlt2 : ¬ (k : Int) < 3 := by omega
     clear HL HCO HCP HCI HCA hokk
     go_wp2
     refine wp_region_held_drew (S := fun w' => Row w' G7 64 (vc T) ∧ Row w' G9 64 (vc Y) ∧ Row w' G11 62 (pc F)) (by kernel_rfl) ⟨HA.out.2.2.2.2.2.2.1.drew, HA.out.2.2.2.2.2.2.2.2.1.drew, HA.out.2.2.2.2.2.2.2.2.2.2.2.1.drew⟩ (fun hS => ?_)
     clear hS
     obtain ⟨X12, hX12⟩ : ∃ V, V = World.drew wr := ⟨_, rfl⟩
     rw [← hX12]
     have HB : Shh (Row X12 N 22 (Lib.byteCells m) ∧ Row X12 (N + 1) 22 (Lib.byteCells r) ∧ Sl X12 (N) (.slice AR rho.length cR) (rho) ∧ KVars X12 ∧ 0 < N ∧ Below N w X12 ∧ Row X12 G7 64 (vc T) ∧ N < G7 ∧ Row X12 G9 64 (vc Y) ∧ G7 < G9 ∧ Row X12 G10 64 (vc E) ∧ Row X12 G11 62 (pc F) ∧ G9 < G10 ∧ G9 < G11 ∧ ¬ G10 = G11 ∧ Row X12 G12 64 (vc U) ∧ G10 < G12 ∧ G11 < G12) := by
      obtain ⟨h0, h1, h2, h3, h4, h5, h6, h7, h8, h9, h10, h11, h12, h13, h14, h15, h16, h17⟩ := HA.out
      rw [hX12]
      exact ⟨h0.drew, h1.drew, h2.drew, h3.drew, h4, h5.drew, h6.drew, h7, h8.drew, h9, h10.drew, h11.drew, h12, h13, h14, h15.drew, h16, h17⟩
     clear hX12 HA
     refine share (T := ?T10) (fun hT => ?gg10) ?tt10
     case gg10 =>
      have HC : Shh (Below X12.heap.size X12 X12) := ⟨Below.refl _ _⟩
      refine held_load 0 64 (.tmp 7) (some 45) (by kernel_rfl) (by rfl) (by kernel_rfl) (G7) 0 (by kernel_rfl) (vc T) _ (fun w h => h.1.range) Tryd.underlying64 rfl (info_vec.trans (size_vec _)) (fun _ _ _ _ h => h) ⟨(Row.go HB.out.2.2.2.2.2.2.1 HC.out), (Row.go HB.out.2.2.2.2.2.2.2.2.1 HC.out), (Row.go HB.out.2.2.2.2.2.2.2.2.2.2.2.1 HC.out)⟩ ?_
      simp only [Act.put, arr9, hd9, tl9]
      refine held_load 1 64 (.tmp 9) (some 46) (by kernel_rfl) (by rfl) (by kernel_rfl) (G9) 0 (by kernel_rfl) (vc Y) _ (fun w h => h.2.1.range) Tryd.underlying64 rfl (info_vec.trans (size_vec _)) (fun _ _ _ _ h => h) ⟨(Row.go HB.out.2.2.2.2.2.2.1 HC.out), (Row.go HB.out.2.2.2.2.2.2.2.2.1 HC.out), (Row.go HB.out.2.2.2.2.2.2.2.2.2.2.2.1 HC.out)⟩ ?_
      simp only [Act.put, arr9, hd9, tl9]
      refine held_load 4 62 (.tmp 11) (some 49) (by kernel_rfl) (by rfl) (by kernel_rfl) (G11) 0 (by kernel_rfl) (pc F) _ (fun w h => h.2.2.range) Tryd.underlying62 rfl (info_poly.trans (size_poly _)) (fun _ _ _ _ h => h) ⟨(Row.go HB.out.2.2.2.2.2.2.1 HC.out), (Row.go HB.out.2.2.2.2.2.2.2.2.1 HC.out), (Row.go HB.out.2.2.2.2.2.2.2.2.2.2.2.1 HC.out)⟩ ?_
      simp only [Act.put, arr9, hd9, tl9]
      refine hdv0 5 50 (.slice (some ⟨N, 0, none⟩) 32 32) (by rfl) ⟨(Row.go HB.out.2.2.2.2.2.2.1 HC.out), (Row.go HB.out.2.2.2.2.2.2.2.2.1 HC.out), (Row.go HB.out.2.2.2.2.2.2.2.2.2.2.2.1 HC.out)⟩ ?_
      refine held_two 2 9 (by kernel_rfl) ?_ ?_
      ·refine step_call 2 _ _ (some 47) 43 #[.agg (vc T).toArray, .agg (vc Y).toArray] (by rfl) (by kernel_rfl) (by first | kernel_rfl | go_simp) ?_
       refine (HVP.out X12).mono ?_
       rintro e w14 ⟨rfl, b13⟩
       have HD : Shh (Below X12.heap.size X12 w14) := by
        have h0 := HC.out
        have := b13.size
        have := h0.size
        exact ⟨Below.chain h0 b13⟩
       clear b13 HC
       refine ⟨_, rfl, ⟨(Row.go HB.out.2.2.2.2.2.2.1 HD.out), (Row.go HB.out.2.2.2.2.2.2.2.2.1 HD.out), (Row.go HB.out.2.2.2.2.2.2.2.2.2.2.2.1 HD.out)⟩, ?_⟩
       simp only [Act.put, arr9, hd9, tl9]
       refine held_two 3 9 (by kernel_rfl) ?_ ?_
       ·refine step_call 3 _ _ (some 48) 51 #[.agg (pc p2).toArray] (by rfl) (by kernel_rfl) (by first | kernel_rfl | go_simp) ?_
        refine (HVI.out w14).mono ?_
        rintro e w16 ⟨rfl, b15⟩
        have HE : Shh (Below X12.heap.size X12 w16) := by
         have h0 := HD.out
         have := b15.size
         have := h0.size
         exact ⟨Below.chain h0 b15⟩
        clear b15 HD
        refine ⟨_, rfl, ⟨(Row.go HB.out.2.2.2.2.2.2.1 HE.out), (Row.go HB.out.2.2.2.2.2.2.2.2.1 HE.out), (Row.go HB.out.2.2.2.2.2.2.2.2.2.2.2.1 HE.out)⟩, ?_⟩
        simp only [Act.put, arr9, hd9, tl9]
        refine held_two 6 9 (by kernel_rfl) ?_ ?_
        ·refine step_call 6 _ _ (some 51) 53 #[.int .i64 1, .slice (some ⟨N, 0, none⟩) 32 32] (by rfl) (by kernel_rfl) (by first | kernel_rfl | go_simp) ?_
         refine (HVW.out w16 (N + 1) _ (Sl.of_bytes ((Row.go HB.out.1 HE.out)) (Nat.lt_succ_self _) HLL.out.2.1 (by decide)) (by have := ((Row.go HB.out.2.1 HE.out)).lt; omega)).mono ?_
         rintro e w18 ⟨rfl, b17⟩
         have HF : Shh (Below X12.heap.size X12 w18) := by
          have h0 := HE.out
          have := b17.size
          have := h0.size
          exact ⟨Below.chain h0 b17⟩
         clear b17 HE
         refine ⟨_, rfl, ⟨(Row.go HB.out.2.2.2.2.2.2.1 HF.out), (Row.go HB.out.2.2.2.2.2.2.2.2.1 HF.out), (Row.go HB.out.2.2.2.2.2.2.2.2.2.2.2.1 HF.out)⟩, ?_⟩
         simp only [Act.put, arr9, hd9, tl9]
         refine held_two 7 9 (by kernel_rfl) ?_ ?_
         ·refine step_call 7 _ _ (some 52) 42 #[.agg (pc F).toArray, .agg (pc M).toArray] (by rfl) (by kernel_rfl) (by first | kernel_rfl | go_simp) ?_
          refine (HVA.out w18).mono ?_
          rintro e w20 ⟨rfl, b19⟩
          have HG : Shh (Below X12.heap.size X12 w20) := by
           have h0 := HF.out
           have := b19.size
           have := h0.size
           exact ⟨Below.chain h0 b19⟩
          clear b19 HF
          refine ⟨_, rfl, ⟨(Row.go HB.out.2.2.2.2.2.2.1 HG.out), (Row.go HB.out.2.2.2.2.2.2.2.2.1 HG.out), (Row.go HB.out.2.2.2.2.2.2.2.2.2.2.2.1 HG.out)⟩, ?_⟩
          simp only [Act.put, arr9, hd9, tl9]
          refine held_two 8 9 (by kernel_rfl) ?_ ?_
          ·refine step_call 8 _ _ (some 53) 42 #[.agg (pc ip2).toArray, .agg (pc FM).toArray] (by rfl) (by kernel_rfl) (by first | kernel_rfl | go_simp) ?_
           refine (HVB.out w20).mono ?_
           rintro e w22 ⟨rfl, b21⟩
           have HH : Shh (Below X12.heap.size X12 w22) := by
            have h0 := HG.out
            have := b21.size
            have := h0.size
            exact ⟨Below.chain h0 b21⟩
           clear b21 HG
           refine ⟨_, rfl, ⟨(Row.go HB.out.2.2.2.2.2.2.1 HH.out), (Row.go HB.out.2.2.2.2.2.2.2.2.1 HH.out), (Row.go HB.out.2.2.2.2.2.2.2.2.2.2.2.1 HH.out)⟩, ?_⟩
           simp only [Act.put, arr9, hd9, tl9]
           refine held_one 9 (by kernel_rfl) ?_
           refine step_zeroP 9 14 (by rfl) (by kernel_rfl) ?_
           intro G14 w24 hG14 r25 b23
           have HI : Shh (Below X12.heap.size X12 w24 ∧ Row w24 G14 62 (pc fun _ => 0) ∧ X12.heap.size ≤ G14) := by
            have h0 := HH.out
            have := b23.size
            have := h0.size
            have := hG14.out
            exact ⟨Below.chain h0 b23, r25, (by omega)⟩
           clear b23 HH r25 hG14
           refine ⟨⟨(Row.go HB.out.2.2.2.2.2.2.1 HI.out.1), (Row.go HB.out.2.2.2.2.2.2.2.2.1 HI.out.1), (Row.go HB.out.2.2.2.2.2.2.2.2.2.2.2.1 HI.out.1)⟩, ?_⟩
           simp only [Act.put, arr9, hd9, tl9]
           refine held_one 10 (by kernel_rfl) ?_
           refine step_storeRow 10 62 (.tmp 14) (.tmp 53) (by rfl) (by kernel_rfl) G14 rfl (pc VP) rfl 62 (pc fun _ => 0) (HI.out.2.1) (info_poly.trans (size_poly _)) (by rw [pc_length, pc_length]) (pc_one _) ?_
           intro w27 r28 bt26 zbt26
           have HJ : Shh (Below X12.heap.size X12 w27 ∧ Row w27 G14 62 (pc VP) ∧ X12.heap.size ≤ G14) := by
            obtain ⟨h0, h1, h2⟩ := HI.out
            have := h1.lt
            have := h0.size
            have hb := bt26.under (Nat.le_of_lt h1.lt) (Nat.le_refl _)
            have := hb.size
            exact ⟨h0.trans (bt26.under (by omega) (by omega)), r28, h2⟩
           clear bt26 HI r28 zbt26
           refine ⟨⟨(Row.go HB.out.2.2.2.2.2.2.1 HJ.out.1), (Row.go HB.out.2.2.2.2.2.2.2.2.1 HJ.out.1), (Row.go HB.out.2.2.2.2.2.2.2.2.2.2.2.1 HJ.out.1)⟩, ?_⟩
           refine wpAnyH_done (by kernel_rfl) ?_ _
           have HZ : Shh (Row w27 N 22 (Lib.byteCells m) ∧ Row w27 (N + 1) 22 (Lib.byteCells r) ∧ Sl w27 (N) (.slice AR rho.length cR) (rho) ∧ KVars w27 ∧ 0 < N ∧ Below N w w27 ∧ Row w27 G7 64 (vc T) ∧ N < G7 ∧ Row w27 G9 64 (vc Y) ∧ G7 < G9 ∧ Row w27 G10 64 (vc E) ∧ Row w27 G11 62 (pc F) ∧ G9 < G10 ∧ G9 < G11 ∧ ¬ G10 = G11 ∧ Row w27 G12 64 (vc U) ∧ G10 < G12 ∧ G11 < G12 ∧ Row w27 G14 62 (pc VP) ∧ G12 < G14) := by
            obtain ⟨h0, h1, h2, h3, h4, h5, h6, h7, h8, h9, h10, h11, h12, h13, h14, h15, h16, h17⟩ := HB.out
            obtain ⟨d0, d1, d2⟩ := HJ.out
            have := h0.lt
            have := h1.lt
            have := h6.lt
            have := h8.lt
            have := h10.lt
            have := h11.lt
            have := h15.lt
            have := d1.lt
            have := d0.size
            exact ⟨h0.go d0, h1.go d0, h2.below (d0.mono (by omega)), h3.step d0, h4, h5.trans (d0.mono (by omega)), h6.go d0, h7, h8.go d0, h9, h10.go d0, h11.go d0, h12, h13, h14, h15.go d0, h16, h17, d1, (by omega)⟩
           clear HJ
           revert HZ
           revert w27
           revert G14
           exact hT.out
          ·refine step_zeroP 9 14 (by rfl) (by kernel_rfl) ?_
           intro G14 w22 hG14 r23 b21
           have HH : Shh (Below X12.heap.size X12 w22 ∧ Row w22 G14 62 (pc fun _ => 0) ∧ X12.heap.size ≤ G14) := by
            have h0 := HG.out
            have := b21.size
            have := h0.size
            have := hG14.out
            exact ⟨Below.chain h0 b21, r23, (by omega)⟩
           clear b21 HG r23 hG14
           refine ⟨⟨(Row.go HB.out.2.2.2.2.2.2.1 HH.out.1), (Row.go HB.out.2.2.2.2.2.2.2.2.1 HH.out.1), (Row.go HB.out.2.2.2.2.2.2.2.2.2.2.2.1 HH.out.1)⟩, ?_⟩
           simp only [Act.put, arr9, hd9, tl9]
           refine held_one 8 (by kernel_rfl) ?_
           refine step_call 8 _ _ (some 53) 42 #[.agg (pc ip2).toArray, .agg (pc FM).toArray] (by rfl) (by kernel_rfl) (by first | kernel_rfl | go_simp) ?_
           refine (HVB.out w22).mono ?_
           rintro e w25 ⟨rfl, b24⟩
           have HI : Shh (Below X12.heap.size X12 w25 ∧ Row w25 G14 62 (pc fun _ => 0) ∧ X12.heap.size ≤ G14) := by
            obtain ⟨h0, h1, h2⟩ := HH.out
            have := h1.lt
            have := b24.size
            have := h0.size
            exact ⟨Below.chain h0 b24, h1.go b24, h2⟩
           clear b24 HH
           refine ⟨_, rfl, ⟨(Row.go HB.out.2.2.2.2.2.2.1 HI.out.1), (Row.go HB.out.2.2.2.2.2.2.2.2.1 HI.out.1), (Row.go HB.out.2.2.2.2.2.2.2.2.2.2.2.1 HI.out.1)⟩, ?_⟩
           simp only [Act.put, arr9, hd9, tl9]
           refine held_one 10 (by kernel_rfl) ?_
           refine step_storeRow 10 62 (.tmp 14) (.tmp 53) (by rfl) (by kernel_rfl) G14 rfl (pc VP) rfl 62 (pc fun _ => 0) (HI.out.2.1) (info_poly.trans (size_poly _)) (by rw [pc_length, pc_length]) (pc_one _) ?_
           intro w27 r28 bt26 zbt26
           have HJ : Shh (Below X12.heap.size X12 w27 ∧ Row w27 G14 62 (pc VP) ∧ X12.heap.size ≤ G14) := by
            obtain ⟨h0, h1, h2⟩ := HI.out
            have := h1.lt
            have := h0.size
            have hb := bt26.under (Nat.le_of_lt h1.lt) (Nat.le_refl _)
            have := hb.size
            exact ⟨h0.trans (bt26.under (by omega) (by omega)), r28, h2⟩
           clear bt26 HI r28 zbt26
           refine ⟨⟨(Row.go HB.out.2.2.2.2.2.2.1 HJ.out.1), (Row.go HB.out.2.2.2.2.2.2.2.2.1 HJ.out.1), (Row.go HB.out.2.2.2.2.2.2.2.2.2.2.2.1 HJ.out.1)⟩, ?_⟩
           refine wpAnyH_done (by kernel_rfl) ?_ _
           have HZ : Shh (Row w27 N 22 (Lib.byteCells m) ∧ Row w27 (N + 1) 22 (Lib.byteCells r) ∧ Sl w27 (N) (.slice AR rho.length cR) (rho) ∧ KVars w27 ∧ 0 < N ∧ Below N w w27 ∧ Row w27 G7 64 (vc T) ∧ N < G7 ∧ Row w27 G9 64 (vc Y) ∧ G7 < G9 ∧ Row w27 G10 64 (vc E) ∧ Row w27 G11 62 (pc F) ∧ G9 < G10 ∧ G9 < G11 ∧ ¬ G10 = G11 ∧ Row w27 G12 64 (vc U) ∧ G10 < G12 ∧ G11 < G12 ∧ Row w27 G14 62 (pc VP) ∧ G12 < G14) := by
            obtain ⟨h0, h1, h2, h3, h4, h5, h6, h7, h8, h9, h10, h11, h12, h13, h14, h15, h16, h17⟩ := HB.out
            obtain ⟨d0, d1, d2⟩ := HJ.out
            have := h0.lt
            have := h1.lt
            have := h6.lt
            have := h8.lt
            have := h10.lt
            have := h11.lt
            have := h15.lt
            have := d1.lt
            have := d0.size
            exact ⟨h0.go d0, h1.go d0, h2.below (d0.mono (by omega)), h3.step d0, h4, h5.trans (d0.mono (by omega)), h6.go d0, h7, h8.go d0, h9, h10.go d0, h11.go d0, h12, h13, h14, h15.go d0, h16, h17, d1, (by omega)⟩
           clear HJ
           revert HZ
           revert w27
           revert G14
           exact hT.out
         ·refine step_zeroP 9 14 (by rfl) (by kernel_rfl) ?_
          intro G14 w20 hG14 r21 b19
          have HG : Shh (Below X12.heap.size X12 w20 ∧ Row w20 G14 62 (pc fun _ => 0) ∧ X12.heap.size ≤ G14) := by
           have h0 := HF.out
           have := b19.size
           have := h0.size
           have := hG14.out
           exact ⟨Below.chain h0 b19, r21, (by omega)⟩
          clear b19 HF r21 hG14
          refine ⟨⟨(Row.go HB.out.2.2.2.2.2.2.1 HG.out.1), (Row.go HB.out.2.2.2.2.2.2.2.2.1 HG.out.1), (Row.go HB.out.2.2.2.2.2.2.2.2.2.2.2.1 HG.out.1)⟩, ?_⟩
          simp only [Act.put, arr9, hd9, tl9]
          refine held_one 7 (by kernel_rfl) ?_
          refine step_call 7 _ _ (some 52) 42 #[.agg (pc F).toArray, .agg (pc M).toArray] (by rfl) (by kernel_rfl) (by first | kernel_rfl | go_simp) ?_
          refine (HVA.out w20).mono ?_
          rintro e w23 ⟨rfl, b22⟩
          have HH : Shh (Below X12.heap.size X12 w23 ∧ Row w23 G14 62 (pc fun _ => 0) ∧ X12.heap.size ≤ G14) := by
           obtain ⟨h0, h1, h2⟩ := HG.out
           have := h1.lt
           have := b22.size
           have := h0.size
           exact ⟨Below.chain h0 b22, h1.go b22, h2⟩
          clear b22 HG
          refine ⟨_, rfl, ⟨(Row.go HB.out.2.2.2.2.2.2.1 HH.out.1), (Row.go HB.out.2.2.2.2.2.2.2.2.1 HH.out.1), (Row.go HB.out.2.2.2.2.2.2.2.2.2.2.2.1 HH.out.1)⟩, ?_⟩
          simp only [Act.put, arr9, hd9, tl9]
          refine held_one 8 (by kernel_rfl) ?_
          refine step_call 8 _ _ (some 53) 42 #[.agg (pc ip2).toArray, .agg (pc FM).toArray] (by rfl) (by kernel_rfl) (by first | kernel_rfl | go_simp) ?_
          refine (HVB.out w23).mono ?_
          rintro e w25 ⟨rfl, b24⟩
          have HI : Shh (Below X12.heap.size X12 w25 ∧ Row w25 G14 62 (pc fun _ => 0) ∧ X12.heap.size ≤ G14) := by
           obtain ⟨h0, h1, h2⟩ := HH.out
           have := h1.lt
           have := b24.size
           have := h0.size
           exact ⟨Below.chain h0 b24, h1.go b24, h2⟩
          clear b24 HH
          refine ⟨_, rfl, ⟨(Row.go HB.out.2.2.2.2.2.2.1 HI.out.1), (Row.go HB.out.2.2.2.2.2.2.2.2.1 HI.out.1), (Row.go HB.out.2.2.2.2.2.2.2.2.2.2.2.1 HI.out.1)⟩, ?_⟩
          simp only [Act.put, arr9, hd9, tl9]
          refine held_one 10 (by kernel_rfl) ?_
          refine step_storeRow 10 62 (.tmp 14) (.tmp 53) (by rfl) (by kernel_rfl) G14 rfl (pc VP) rfl 62 (pc fun _ => 0) (HI.out.2.1) (info_poly.trans (size_poly _)) (by rw [pc_length, pc_length]) (pc_one _) ?_
          intro w27 r28 bt26 zbt26
          have HJ : Shh (Below X12.heap.size X12 w27 ∧ Row w27 G14 62 (pc VP) ∧ X12.heap.size ≤ G14) := by
           obtain ⟨h0, h1, h2⟩ := HI.out
           have := h1.lt
           have := h0.size
           have hb := bt26.under (Nat.le_of_lt h1.lt) (Nat.le_refl _)
           have := hb.size
           exact ⟨h0.trans (bt26.under (by omega) (by omega)), r28, h2⟩
          clear bt26 HI r28 zbt26
          refine ⟨⟨(Row.go HB.out.2.2.2.2.2.2.1 HJ.out.1), (Row.go HB.out.2.2.2.2.2.2.2.2.1 HJ.out.1), (Row.go HB.out.2.2.2.2.2.2.2.2.2.2.2.1 HJ.out.1)⟩, ?_⟩
          refine wpAnyH_done (by kernel_rfl) ?_ _
          have HZ : Shh (Row w27 N 22 (Lib.byteCells m) ∧ Row w27 (N + 1) 22 (Lib.byteCells r) ∧ Sl w27 (N) (.slice AR rho.length cR) (rho) ∧ KVars w27 ∧ 0 < N ∧ Below N w w27 ∧ Row w27 G7 64 (vc T) ∧ N < G7 ∧ Row w27 G9 64 (vc Y) ∧ G7 < G9 ∧ Row w27 G10 64 (vc E) ∧ Row w27 G11 62 (pc F) ∧ G9 < G10 ∧ G9 < G11 ∧ ¬ G10 = G11 ∧ Row w27 G12 64 (vc U) ∧ G10 < G12 ∧ G11 < G12 ∧ Row w27 G14 62 (pc VP) ∧ G12 < G14) := by
           obtain ⟨h0, h1, h2, h3, h4, h5, h6, h7, h8, h9, h10, h11, h12, h13, h14, h15, h16, h17⟩ := HB.out
           obtain ⟨d0, d1, d2⟩ := HJ.out
           have := h0.lt
           have := h1.lt
           have := h6.lt
           have := h8.lt
           have := h10.lt
           have := h11.lt
           have := h15.lt
           have := d1.lt
           have := d0.size
           exact ⟨h0.go d0, h1.go d0, h2.below (d0.mono (by omega)), h3.step d0, h4, h5.trans (d0.mono (by omega)), h6.go d0, h7, h8.go d0, h9, h10.go d0, h11.go d0, h12, h13, h14, h15.go d0, h16, h17, d1, (by omega)⟩
          clear HJ
          revert HZ
          revert w27
          revert G14
          exact hT.out
        ·refine step_zeroP 9 14 (by rfl) (by kernel_rfl) ?_
         intro G14 w18 hG14 r19 b17
         have HF : Shh (Below X12.heap.size X12 w18 ∧ Row w18 G14 62 (pc fun _ => 0) ∧ X12.heap.size ≤ G14) := by
          have h0 := HE.out
          have := b17.size
          have := h0.size
          have := hG14.out
          exact ⟨Below.chain h0 b17, r19, (by omega)⟩
         clear b17 HE r19 hG14
         refine ⟨⟨(Row.go HB.out.2.2.2.2.2.2.1 HF.out.1), (Row.go HB.out.2.2.2.2.2.2.2.2.1 HF.out.1), (Row.go HB.out.2.2.2.2.2.2.2.2.2.2.2.1 HF.out.1)⟩, ?_⟩
         simp only [Act.put, arr9, hd9, tl9]
         refine held_one 6 (by kernel_rfl) ?_
         refine step_call 6 _ _ (some 51) 53 #[.int .i64 1, .slice (some ⟨N, 0, none⟩) 32 32] (by rfl) (by kernel_rfl) (by first | kernel_rfl | go_simp) ?_
         refine (HVW.out w18 (N + 1) _ (Sl.of_bytes ((Row.go HB.out.1 HF.out.1)) (Nat.lt_succ_self _) HLL.out.2.1 (by decide)) (by have := ((Row.go HB.out.2.1 HF.out.1)).lt; omega)).mono ?_
         rintro e w21 ⟨rfl, b20⟩
         have HG : Shh (Below X12.heap.size X12 w21 ∧ Row w21 G14 62 (pc fun _ => 0) ∧ X12.heap.size ≤ G14) := by
          obtain ⟨h0, h1, h2⟩ := HF.out
          have := h1.lt
          have := b20.size
          have := h0.size
          exact ⟨Below.chain h0 b20, h1.go b20, h2⟩
         clear b20 HF
         refine ⟨_, rfl, ⟨(Row.go HB.out.2.2.2.2.2.2.1 HG.out.1), (Row.go HB.out.2.2.2.2.2.2.2.2.1 HG.out.1), (Row.go HB.out.2.2.2.2.2.2.2.2.2.2.2.1 HG.out.1)⟩, ?_⟩
         simp only [Act.put, arr9, hd9, tl9]
         refine held_one 7 (by kernel_rfl) ?_
         refine step_call 7 _ _ (some 52) 42 #[.agg (pc F).toArray, .agg (pc M).toArray] (by rfl) (by kernel_rfl) (by first | kernel_rfl | go_simp) ?_
         refine (HVA.out w21).mono ?_
         rintro e w23 ⟨rfl, b22⟩
         have HH : Shh (Below X12.heap.size X12 w23 ∧ Row w23 G14 62 (pc fun _ => 0) ∧ X12.heap.size ≤ G14) := by
          obtain ⟨h0, h1, h2⟩ := HG.out
          have := h1.lt
          have := b22.size
          have := h0.size
          exact ⟨Below.chain h0 b22, h1.go b22, h2⟩
         clear b22 HG
         refine ⟨_, rfl, ⟨(Row.go HB.out.2.2.2.2.2.2.1 HH.out.1), (Row.go HB.out.2.2.2.2.2.2.2.2.1 HH.out.1), (Row.go HB.out.2.2.2.2.2.2.2.2.2.2.2.1 HH.out.1)⟩, ?_⟩
         simp only [Act.put, arr9, hd9, tl9]
         refine held_one 8 (by kernel_rfl) ?_
         refine step_call 8 _ _ (some 53) 42 #[.agg (pc ip2).toArray, .agg (pc FM).toArray] (by rfl) (by kernel_rfl) (by first | kernel_rfl | go_simp) ?_
         refine (HVB.out w23).mono ?_
         rintro e w25 ⟨rfl, b24⟩
         have HI : Shh (Below X12.heap.size X12 w25 ∧ Row w25 G14 62 (pc fun _ => 0) ∧ X12.heap.size ≤ G14) := by
          obtain ⟨h0, h1, h2⟩ := HH.out
          have := h1.lt
          have := b24.size
          have := h0.size
          exact ⟨Below.chain h0 b24, h1.go b24, h2⟩
         clear b24 HH
         refine ⟨_, rfl, ⟨(Row.go HB.out.2.2.2.2.2.2.1 HI.out.1), (Row.go HB.out.2.2.2.2.2.2.2.2.1 HI.out.1), (Row.go HB.out.2.2.2.2.2.2.2.2.2.2.2.1 HI.out.1)⟩, ?_⟩
         simp only [Act.put, arr9, hd9, tl9]
         refine held_one 10 (by kernel_rfl) ?_
         refine step_storeRow 10 62 (.tmp 14) (.tmp 53) (by rfl) (by kernel_rfl) G14 rfl (pc VP) rfl 62 (pc fun _ => 0) (HI.out.2.1) (info_poly.trans (size_poly _)) (by rw [pc_length, pc_length]) (pc_one _) ?_
         intro w27 r28 bt26 zbt26
         have HJ : Shh (Below X12.heap.size X12 w27 ∧ Row w27 G14 62 (pc VP) ∧ X12.heap.size ≤ G14) := by
          obtain ⟨h0, h1, h2⟩ := HI.out
          have := h1.lt
          have := h0.size
          have hb := bt26.under (Nat.le_of_lt h1.lt) (Nat.le_refl _)
          have := hb.size
          exact ⟨h0.trans (bt26.under (by omega) (by omega)), r28, h2⟩
         clear bt26 HI r28 zbt26
         refine ⟨⟨(Row.go HB.out.2.2.2.2.2.2.1 HJ.out.1), (Row.go HB.out.2.2.2.2.2.2.2.2.1 HJ.out.1), (Row.go HB.out.2.2.2.2.2.2.2.2.2.2.2.1 HJ.out.1)⟩, ?_⟩
         refine wpAnyH_done (by kernel_rfl) ?_ _
         have HZ : Shh (Row w27 N 22 (Lib.byteCells m) ∧ Row w27 (N + 1) 22 (Lib.byteCells r) ∧ Sl w27 (N) (.slice AR rho.length cR) (rho) ∧ KVars w27 ∧ 0 < N ∧ Below N w w27 ∧ Row w27 G7 64 (vc T) ∧ N < G7 ∧ Row w27 G9 64 (vc Y) ∧ G7 < G9 ∧ Row w27 G10 64 (vc E) ∧ Row w27 G11 62 (pc F) ∧ G9 < G10 ∧ G9 < G11 ∧ ¬ G10 = G11 ∧ Row w27 G12 64 (vc U) ∧ G10 < G12 ∧ G11 < G12 ∧ Row w27 G14 62 (pc VP) ∧ G12 < G14) := by
          obtain ⟨h0, h1, h2, h3, h4, h5, h6, h7, h8, h9, h10, h11, h12, h13, h14, h15, h16, h17⟩ := HB.out
          obtain ⟨d0, d1, d2⟩ := HJ.out
          have := h0.lt
          have := h1.lt
          have := h6.lt
          have := h8.lt
          have := h10.lt
          have := h11.lt
          have := h15.lt
          have := d1.lt
          have := d0.size
          exact ⟨h0.go d0, h1.go d0, h2.below (d0.mono (by omega)), h3.step d0, h4, h5.trans (d0.mono (by omega)), h6.go d0, h7, h8.go d0, h9, h10.go d0, h11.go d0, h12, h13, h14, h15.go d0, h16, h17, d1, (by omega)⟩
         clear HJ
         revert HZ
         revert w27
         revert G14
         exact hT.out
       ·refine step_zeroP 9 14 (by rfl) (by kernel_rfl) ?_
        intro G14 w16 hG14 r17 b15
        have HE : Shh (Below X12.heap.size X12 w16 ∧ Row w16 G14 62 (pc fun _ => 0) ∧ X12.heap.size ≤ G14) := by
         have h0 := HD.out
         have := b15.size
         have := h0.size
         have := hG14.out
         exact ⟨Below.chain h0 b15, r17, (by omega)⟩
        clear b15 HD r17 hG14
        refine ⟨⟨(Row.go HB.out.2.2.2.2.2.2.1 HE.out.1), (Row.go HB.out.2.2.2.2.2.2.2.2.1 HE.out.1), (Row.go HB.out.2.2.2.2.2.2.2.2.2.2.2.1 HE.out.1)⟩, ?_⟩
        simp only [Act.put, arr9, hd9, tl9]
        refine held_one 3 (by kernel_rfl) ?_
        refine step_call 3 _ _ (some 48) 51 #[.agg (pc p2).toArray] (by rfl) (by kernel_rfl) (by first | kernel_rfl | go_simp) ?_
        refine (HVI.out w16).mono ?_
        rintro e w19 ⟨rfl, b18⟩
        have HF : Shh (Below X12.heap.size X12 w19 ∧ Row w19 G14 62 (pc fun _ => 0) ∧ X12.heap.size ≤ G14) := by
         obtain ⟨h0, h1, h2⟩ := HE.out
         have := h1.lt
         have := b18.size
         have := h0.size
         exact ⟨Below.chain h0 b18, h1.go b18, h2⟩
        clear b18 HE
        refine ⟨_, rfl, ⟨(Row.go HB.out.2.2.2.2.2.2.1 HF.out.1), (Row.go HB.out.2.2.2.2.2.2.2.2.1 HF.out.1), (Row.go HB.out.2.2.2.2.2.2.2.2.2.2.2.1 HF.out.1)⟩, ?_⟩
        simp only [Act.put, arr9, hd9, tl9]
        refine held_one 6 (by kernel_rfl) ?_
        refine step_call 6 _ _ (some 51) 53 #[.int .i64 1, .slice (some ⟨N, 0, none⟩) 32 32] (by rfl) (by kernel_rfl) (by first | kernel_rfl | go_simp) ?_
        refine (HVW.out w19 (N + 1) _ (Sl.of_bytes ((Row.go HB.out.1 HF.out.1)) (Nat.lt_succ_self _) HLL.out.2.1 (by decide)) (by have := ((Row.go HB.out.2.1 HF.out.1)).lt; omega)).mono ?_
        rintro e w21 ⟨rfl, b20⟩
        have HG : Shh (Below X12.heap.size X12 w21 ∧ Row w21 G14 62 (pc fun _ => 0) ∧ X12.heap.size ≤ G14) := by
         obtain ⟨h0, h1, h2⟩ := HF.out
         have := h1.lt
         have := b20.size
         have := h0.size
         exact ⟨Below.chain h0 b20, h1.go b20, h2⟩
        clear b20 HF
        refine ⟨_, rfl, ⟨(Row.go HB.out.2.2.2.2.2.2.1 HG.out.1), (Row.go HB.out.2.2.2.2.2.2.2.2.1 HG.out.1), (Row.go HB.out.2.2.2.2.2.2.2.2.2.2.2.1 HG.out.1)⟩, ?_⟩
        simp only [Act.put, arr9, hd9, tl9]
        refine held_one 7 (by kernel_rfl) ?_
        refine step_call 7 _ _ (some 52) 42 #[.agg (pc F).toArray, .agg (pc M).toArray] (by rfl) (by kernel_rfl) (by first | kernel_rfl | go_simp) ?_
        refine (HVA.out w21).mono ?_
        rintro e w23 ⟨rfl, b22⟩
        have HH : Shh (Below X12.heap.size X12 w23 ∧ Row w23 G14 62 (pc fun _ => 0) ∧ X12.heap.size ≤ G14) := by
         obtain ⟨h0, h1, h2⟩ := HG.out
         have := h1.lt
         have := b22.size
         have := h0.size
         exact ⟨Below.chain h0 b22, h1.go b22, h2⟩
        clear b22 HG
        refine ⟨_, rfl, ⟨(Row.go HB.out.2.2.2.2.2.2.1 HH.out.1), (Row.go HB.out.2.2.2.2.2.2.2.2.1 HH.out.1), (Row.go HB.out.2.2.2.2.2.2.2.2.2.2.2.1 HH.out.1)⟩, ?_⟩
        simp only [Act.put, arr9, hd9, tl9]
        refine held_one 8 (by kernel_rfl) ?_
        refine step_call 8 _ _ (some 53) 42 #[.agg (pc ip2).toArray, .agg (pc FM).toArray] (by rfl) (by kernel_rfl) (by first | kernel_rfl | go_simp) ?_
        refine (HVB.out w23).mono ?_
        rintro e w25 ⟨rfl, b24⟩
        have HI : Shh (Below X12.heap.size X12 w25 ∧ Row w25 G14 62 (pc fun _ => 0) ∧ X12.heap.size ≤ G14) := by
         obtain ⟨h0, h1, h2⟩ := HH.out
         have := h1.lt
         have := b24.size
         have := h0.size
         exact ⟨Below.chain h0 b24, h1.go b24, h2⟩
        clear b24 HH
        refine ⟨_, rfl, ⟨(Row.go HB.out.2.2.2.2.2.2.1 HI.out.1), (Row.go HB.out.2.2.2.2.2.2.2.2.1 HI.out.1), (Row.go HB.out.2.2.2.2.2.2.2.2.2.2.2.1 HI.out.1)⟩, ?_⟩
        simp only [Act.put, arr9, hd9, tl9]
        refine held_one 10 (by kernel_rfl) ?_
        refine step_storeRow 10 62 (.tmp 14) (.tmp 53) (by rfl) (by kernel_rfl) G14 rfl (pc VP) rfl 62 (pc fun _ => 0) (HI.out.2.1) (info_poly.trans (size_poly _)) (by rw [pc_length, pc_length]) (pc_one _) ?_
        intro w27 r28 bt26 zbt26
        have HJ : Shh (Below X12.heap.size X12 w27 ∧ Row w27 G14 62 (pc VP) ∧ X12.heap.size ≤ G14) := by
         obtain ⟨h0, h1, h2⟩ := HI.out
         have := h1.lt
         have := h0.size
         have hb := bt26.under (Nat.le_of_lt h1.lt) (Nat.le_refl _)
         have := hb.size
         exact ⟨h0.trans (bt26.under (by omega) (by omega)), r28, h2⟩
        clear bt26 HI r28 zbt26
        refine ⟨⟨(Row.go HB.out.2.2.2.2.2.2.1 HJ.out.1), (Row.go HB.out.2.2.2.2.2.2.2.2.1 HJ.out.1), (Row.go HB.out.2.2.2.2.2.2.2.2.2.2.2.1 HJ.out.1)⟩, ?_⟩
        refine wpAnyH_done (by kernel_rfl) ?_ _
        have HZ : Shh (Row w27 N 22 (Lib.byteCells m) ∧ Row w27 (N + 1) 22 (Lib.byteCells r) ∧ Sl w27 (N) (.slice AR rho.length cR) (rho) ∧ KVars w27 ∧ 0 < N ∧ Below N w w27 ∧ Row w27 G7 64 (vc T) ∧ N < G7 ∧ Row w27 G9 64 (vc Y) ∧ G7 < G9 ∧ Row w27 G10 64 (vc E) ∧ Row w27 G11 62 (pc F) ∧ G9 < G10 ∧ G9 < G11 ∧ ¬ G10 = G11 ∧ Row w27 G12 64 (vc U) ∧ G10 < G12 ∧ G11 < G12 ∧ Row w27 G14 62 (pc VP) ∧ G12 < G14) := by
         obtain ⟨h0, h1, h2, h3, h4, h5, h6, h7, h8, h9, h10, h11, h12, h13, h14, h15, h16, h17⟩ := HB.out
         obtain ⟨d0, d1, d2⟩ := HJ.out
         have := h0.lt
         have := h1.lt
         have := h6.lt
         have := h8.lt
         have := h10.lt
         have := h11.lt
         have := h15.lt
         have := d1.lt
         have := d0.size
         exact ⟨h0.go d0, h1.go d0, h2.below (d0.mono (by omega)), h3.step d0, h4, h5.trans (d0.mono (by omega)), h6.go d0, h7, h8.go d0, h9, h10.go d0, h11.go d0, h12, h13, h14, h15.go d0, h16, h17, d1, (by omega)⟩
        clear HJ
        revert HZ
        revert w27
        revert G14
        exact hT.out
      ·refine step_zeroP 9 14 (by rfl) (by kernel_rfl) ?_
       intro G14 w14 hG14 r15 b13
       have HD : Shh (Below X12.heap.size X12 w14 ∧ Row w14 G14 62 (pc fun _ => 0) ∧ X12.heap.size ≤ G14) := by
        have h0 := HC.out
        have := b13.size
        have := h0.size
        have := hG14.out
        exact ⟨Below.chain h0 b13, r15, (by omega)⟩
       clear b13 HC r15 hG14
       refine ⟨⟨(Row.go HB.out.2.2.2.2.2.2.1 HD.out.1), (Row.go HB.out.2.2.2.2.2.2.2.2.1 HD.out.1), (Row.go HB.out.2.2.2.2.2.2.2.2.2.2.2.1 HD.out.1)⟩, ?_⟩
       simp only [Act.put, arr9, hd9, tl9]
       refine held_one 2 (by kernel_rfl) ?_
       refine step_call 2 _ _ (some 47) 43 #[.agg (vc T).toArray, .agg (vc Y).toArray] (by rfl) (by kernel_rfl) (by first | kernel_rfl | go_simp) ?_
       refine (HVP.out w14).mono ?_
       rintro e w17 ⟨rfl, b16⟩
       have HE : Shh (Below X12.heap.size X12 w17 ∧ Row w17 G14 62 (pc fun _ => 0) ∧ X12.heap.size ≤ G14) := by
        obtain ⟨h0, h1, h2⟩ := HD.out
        have := h1.lt
        have := b16.size
        have := h0.size
        exact ⟨Below.chain h0 b16, h1.go b16, h2⟩
       clear b16 HD
       refine ⟨_, rfl, ⟨(Row.go HB.out.2.2.2.2.2.2.1 HE.out.1), (Row.go HB.out.2.2.2.2.2.2.2.2.1 HE.out.1), (Row.go HB.out.2.2.2.2.2.2.2.2.2.2.2.1 HE.out.1)⟩, ?_⟩
       simp only [Act.put, arr9, hd9, tl9]
       refine held_one 3 (by kernel_rfl) ?_
       refine step_call 3 _ _ (some 48) 51 #[.agg (pc p2).toArray] (by rfl) (by kernel_rfl) (by first | kernel_rfl | go_simp) ?_
       refine (HVI.out w17).mono ?_
       rintro e w19 ⟨rfl, b18⟩
       have HF : Shh (Below X12.heap.size X12 w19 ∧ Row w19 G14 62 (pc fun _ => 0) ∧ X12.heap.size ≤ G14) := by
        obtain ⟨h0, h1, h2⟩ := HE.out
        have := h1.lt
        have := b18.size
        have := h0.size
        exact ⟨Below.chain h0 b18, h1.go b18, h2⟩
       clear b18 HE
       refine ⟨_, rfl, ⟨(Row.go HB.out.2.2.2.2.2.2.1 HF.out.1), (Row.go HB.out.2.2.2.2.2.2.2.2.1 HF.out.1), (Row.go HB.out.2.2.2.2.2.2.2.2.2.2.2.1 HF.out.1)⟩, ?_⟩
       simp only [Act.put, arr9, hd9, tl9]
       refine held_one 6 (by kernel_rfl) ?_
       refine step_call 6 _ _ (some 51) 53 #[.int .i64 1, .slice (some ⟨N, 0, none⟩) 32 32] (by rfl) (by kernel_rfl) (by first | kernel_rfl | go_simp) ?_
       refine (HVW.out w19 (N + 1) _ (Sl.of_bytes ((Row.go HB.out.1 HF.out.1)) (Nat.lt_succ_self _) HLL.out.2.1 (by decide)) (by have := ((Row.go HB.out.2.1 HF.out.1)).lt; omega)).mono ?_
       rintro e w21 ⟨rfl, b20⟩
       have HG : Shh (Below X12.heap.size X12 w21 ∧ Row w21 G14 62 (pc fun _ => 0) ∧ X12.heap.size ≤ G14) := by
        obtain ⟨h0, h1, h2⟩ := HF.out
        have := h1.lt
        have := b20.size
        have := h0.size
        exact ⟨Below.chain h0 b20, h1.go b20, h2⟩
       clear b20 HF
       refine ⟨_, rfl, ⟨(Row.go HB.out.2.2.2.2.2.2.1 HG.out.1), (Row.go HB.out.2.2.2.2.2.2.2.2.1 HG.out.1), (Row.go HB.out.2.2.2.2.2.2.2.2.2.2.2.1 HG.out.1)⟩, ?_⟩
       simp only [Act.put, arr9, hd9, tl9]
       refine held_one 7 (by kernel_rfl) ?_
       refine step_call 7 _ _ (some 52) 42 #[.agg (pc F).toArray, .agg (pc M).toArray] (by rfl) (by kernel_rfl) (by first | kernel_rfl | go_simp) ?_
       refine (HVA.out w21).mono ?_
       rintro e w23 ⟨rfl, b22⟩
       have HH : Shh (Below X12.heap.size X12 w23 ∧ Row w23 G14 62 (pc fun _ => 0) ∧ X12.heap.size ≤ G14) := by
        obtain ⟨h0, h1, h2⟩ := HG.out
        have := h1.lt
        have := b22.size
        have := h0.size
        exact ⟨Below.chain h0 b22, h1.go b22, h2⟩
       clear b22 HG
       refine ⟨_, rfl, ⟨(Row.go HB.out.2.2.2.2.2.2.1 HH.out.1), (Row.go HB.out.2.2.2.2.2.2.2.2.1 HH.out.1), (Row.go HB.out.2.2.2.2.2.2.2.2.2.2.2.1 HH.out.1)⟩, ?_⟩
       simp only [Act.put, arr9, hd9, tl9]
       refine held_one 8 (by kernel_rfl) ?_
       refine step_call 8 _ _ (some 53) 42 #[.agg (pc ip2).toArray, .agg (pc FM).toArray] (by rfl) (by kernel_rfl) (by first | kernel_rfl | go_simp) ?_
       refine (HVB.out w23).mono ?_
       rintro e w25 ⟨rfl, b24⟩
       have HI : Shh (Below X12.heap.size X12 w25 ∧ Row w25 G14 62 (pc fun _ => 0) ∧ X12.heap.size ≤ G14) := by
        obtain ⟨h0, h1, h2⟩ := HH.out
        have := h1.lt
        have := b24.size
        have := h0.size
        exact ⟨Below.chain h0 b24, h1.go b24, h2⟩
       clear b24 HH
       refine ⟨_, rfl, ⟨(Row.go HB.out.2.2.2.2.2.2.1 HI.out.1), (Row.go HB.out.2.2.2.2.2.2.2.2.1 HI.out.1), (Row.go HB.out.2.2.2.2.2.2.2.2.2.2.2.1 HI.out.1)⟩, ?_⟩
       simp only [Act.put, arr9, hd9, tl9]
       refine held_one 10 (by kernel_rfl) ?_
       refine step_storeRow 10 62 (.tmp 14) (.tmp 53) (by rfl) (by kernel_rfl) G14 rfl (pc VP) rfl 62 (pc fun _ => 0) (HI.out.2.1) (info_poly.trans (size_poly _)) (by rw [pc_length, pc_length]) (pc_one _) ?_
       intro w27 r28 bt26 zbt26
       have HJ : Shh (Below X12.heap.size X12 w27 ∧ Row w27 G14 62 (pc VP) ∧ X12.heap.size ≤ G14) := by
        obtain ⟨h0, h1, h2⟩ := HI.out
        have := h1.lt
        have := h0.size
        have hb := bt26.under (Nat.le_of_lt h1.lt) (Nat.le_refl _)
        have := hb.size
        exact ⟨h0.trans (bt26.under (by omega) (by omega)), r28, h2⟩
       clear bt26 HI r28 zbt26
       refine ⟨⟨(Row.go HB.out.2.2.2.2.2.2.1 HJ.out.1), (Row.go HB.out.2.2.2.2.2.2.2.2.1 HJ.out.1), (Row.go HB.out.2.2.2.2.2.2.2.2.2.2.2.1 HJ.out.1)⟩, ?_⟩
       refine wpAnyH_done (by kernel_rfl) ?_ _
       have HZ : Shh (Row w27 N 22 (Lib.byteCells m) ∧ Row w27 (N + 1) 22 (Lib.byteCells r) ∧ Sl w27 (N) (.slice AR rho.length cR) (rho) ∧ KVars w27 ∧ 0 < N ∧ Below N w w27 ∧ Row w27 G7 64 (vc T) ∧ N < G7 ∧ Row w27 G9 64 (vc Y) ∧ G7 < G9 ∧ Row w27 G10 64 (vc E) ∧ Row w27 G11 62 (pc F) ∧ G9 < G10 ∧ G9 < G11 ∧ ¬ G10 = G11 ∧ Row w27 G12 64 (vc U) ∧ G10 < G12 ∧ G11 < G12 ∧ Row w27 G14 62 (pc VP) ∧ G12 < G14) := by
        obtain ⟨h0, h1, h2, h3, h4, h5, h6, h7, h8, h9, h10, h11, h12, h13, h14, h15, h16, h17⟩ := HB.out
        obtain ⟨d0, d1, d2⟩ := HJ.out
        have := h0.lt
        have := h1.lt
        have := h6.lt
        have := h8.lt
        have := h10.lt
        have := h11.lt
        have := h15.lt
        have := d1.lt
        have := d0.size
        exact ⟨h0.go d0, h1.go d0, h2.below (d0.mono (by omega)), h3.step d0, h4, h5.trans (d0.mono (by omega)), h6.go d0, h7, h8.go d0, h9, h10.go d0, h11.go d0, h12, h13, h14, h15.go d0, h16, h17, d1, (by omega)⟩
       clear HJ
       revert HZ
       revert w27
       revert G14
       exact hT.out
     case tt10 =>
      clear HB
      intro G14 X6 HA
      clear HVP HVI HVW HVA HVB
      have HB : Shh (Below N w X6 ∧ Row X6 G12 64 (vc U) ∧ Row X6 G14 62 (pc VP) ∧ G12 < G14 ∧ N < G12 ∧ G14 < X6.heap.size) := by
       obtain ⟨h0, h1, h2, h3, h4, h5, h6, h7, h8, h9, h10, h11, h12, h13, h14, h15, h16, h17, h18, h19⟩ := HA.out
       exact ⟨h5, h15, h18, h19, by omega, h18.lt⟩
      clear HA
      go_wp2
      obtain ⟨G, hG⟩ : ∃ G, Shh (G = G14 + 1) := ⟨_, ⟨rfl⟩⟩
      go_loopw [15, 54] (fun b cc wr => ∃ (k : Nat) (vb : Value), k ≤ 3 ∧ vb = b ∧ cc = .int .i64 (k : Int) ∧ Shh (wr.ownsRow G 5 1 b (nkN U k).length (Lib.byteCells (nkN U k)) ∧ Below N w wr ∧ Row wr G12 64 (vc U) ∧ Row wr G14 62 (pc VP) ∧ G12 < G14 ∧ N < G12 ∧ G ≤ wr.heap.size)) (fun _ cc _ => 3 - (intOf cc).toNat)
      case atStart =>
       obtain ⟨h1, h2, h3, h4, h5, h6⟩ := HB.out
       exact ⟨0, _, Nat.zero_le _, rfl, rfl, ⟨World.ownsRow_nil _ _ _ _, h1, h2, h3, h4, h5, by have := hG.out; omega⟩⟩
      case round =>
       clear HB
       obtain ⟨k, b, hk, hvb, rfl, HI⟩ := hrel
       subst hvb
       by_cases hlt : k < 3
       ·have hlt2 : (k : Int) < 3 := by omega
        obtain ⟨O, hO⟩ : ∃ O, Shh (O = 256 * k) := ⟨_, ⟨rfl⟩⟩
        go_wp2_with (first | refine wl_at 59 rfl (.pointer (some ⟨G12, O, none⟩)) rfl (run_atV hlt hO.out rfl rfl rfl) ?_ | refine wl_loadE rfl rfl hlt hO.out rfl rfl HI.out.2.2.1 ?_ | (go_at_call 54; refine (HNU.out k hlt _).mono ?_))
        rintro e w4 ⟨u, rfl, hu, b4⟩
        have HI2 : Shh ((w4.ownsRow G 5 1 b (nkN U k).length (Lib.byteCells (nkN U k)) ∧ Below N w w4 ∧ Row w4 G12 64 (vc U) ∧ Row w4 G14 62 (pc VP) ∧ G12 < G14 ∧ N < G12 ∧ G ≤ w4.heap.size) ∧ Sl w4 w4.heap.size u (narB 10 (U k))) := by
         obtain ⟨h1, h2, h3, h4, h5, h6, h7⟩ := HI.out
         have := b4.size
         have := h3.lt
         exact ⟨⟨own_below h1 b4, h2.trans (b4.mono (by omega)), h3.go b4, h4.go b4, h5, h6, by omega⟩, Sl.of_own hu⟩
        clear hu b4 HI
        go_wp2_with (at_builtin; refine wp_appendSl _ 23 5 i0 Tryd.underlying23 HIN.out.1 HIN.out.2.1 HIN.out.2.2.1 HIN.out.2.2.2 rfl _ _ rfl HI2.out.1.1 HI2.out.2 rfl rfl (by have := (HLN.out k).1; have := (HLN.out k).2.1; omega) HI2.out.1.2.2.2.2.2.2 ?_)
        intro v' w6 ho hg hb6
        have HI3 : Shh (w6.ownsRow G 5 1 v' (nkN U (k + 1)).length (Lib.byteCells (nkN U (k + 1))) ∧ Below N w w6 ∧ Row w6 G12 64 (vc U) ∧ Row w6 G14 62 (pc VP) ∧ G12 < G14 ∧ N < G12 ∧ G ≤ w6.heap.size) := by
         obtain ⟨⟨h1, h2, h3, h4, h5, h6, h7⟩, _⟩ := HI2.out
         have hb := hb6 G (Nat.le_refl _)
         have := hb.size
         have hgg := hG.out
         rw [(HLN.out k).2.2] at ho
         exact ⟨own_len ho (by have a1 := (HLN.out k).1; have a2 := (HLN.out (k + 1)).1; have a3 := (HLN.out k).2.1; omega), h2.trans (hb.mono (by omega)), h3.below hb (by omega), h4.below hb (by omega), h5, h6, by omega⟩
        clear ho hg hb6 HI2
        go_wp2
        go_roundw
        case rel => exact ⟨k + 1, _, by omega, rfl, by go_num, HI3⟩
        case measure => simp [intOf]; omega
       ·have HK : Shh (k = 3) := ⟨by omega⟩
        rw [HK.out] at HI
        have hlt2 : ¬ (k : Int) < 3 := by omega
        clear HK HNU
        go_wp2_with (first | refine wpList_load_any rfl 62 (.tmp 14) rfl G14 rfl 62 (pc VP) (.array 256 39) HI.out.2.2.2.1 Tryd.underlying62 rfl (info_poly.trans (size_poly _)) ?_ | (go_at_call 54; refine (HNV.out _).mono ?_))
        rintro e w4 ⟨u, rfl, hu, b4⟩
        have HI2 : Shh (w4.ownsRow G 5 1 b (nkN U 3).length (Lib.byteCells (nkN U 3)) ∧ Below N w w4 ∧ N < G ∧ G ≤ w4.heap.size ∧ Sl w4 w4.heap.size u VB) := by
         obtain ⟨h1, h2, h3, h4, h5, h6, h7⟩ := HI.out
         have := b4.size
         have := h3.lt
         have hgg := hG.out
         exact ⟨own_below h1 b4, h2.trans (b4.mono (by omega)), by omega, by omega, Sl.of_own hu⟩
        clear hu b4 HI
        go_wp2_with (at_builtin; refine wp_appendSl _ 23 5 i0 Tryd.underlying23 HIN.out.1 HIN.out.2.1 HIN.out.2.2.1 HIN.out.2.2.2 rfl _ _ rfl HI2.out.1 HI2.out.2.2.2.2 rfl rfl (by have := (HLN.out 3).1; have := HLV.out; omega) HI2.out.2.2.2.1 ?_)
        intro v' w6 ho hg hb6
        have HI3 : Shh (w6.ownsRow N 5 1 v' (nkN U 3 ++ VB).length (Lib.byteCells (nkN U 3 ++ VB)) ∧ Below N w w6) := by
         obtain ⟨h1, h2, h3, h4, _⟩ := HI2.out
         have hb := hb6 G (Nat.le_refl _)
         exact ⟨kown_mono (own_len ho (by simp)) (by omega), h2.trans (hb.mono (by omega))⟩
        clear ho hg hb6 HI2
        go_wp2
        go_ret
        exact ⟨fun _ => ⟨v', rfl, by rw [hN0.out]; exact HI3.out.1, by rw [hN0.out]; exact HI3.out.2⟩, fun h => absurd HOK.out h⟩
end Go.Proofs.YtbjpbeplpljieaaDoor
