import Derived.Test.YtfcgdjgfdbcddaaZD
import Derived.Test.YtfcgdjgfdbcddaaZC
import Derived.Test.YtfcgdjgfdbcddaaZG
/-
 THE DOCUMENT'S OWN Compress, Decompress.
-/
namespace Go.Proofs.Ytfcgdjgfdbcddaa
open Go.RowKit
set_option maxRecDepth 100000
section
variable {a : Act} {x y : Operand} {op : Oper} {w : World}
theorem rem_ij {i j k : Nat} (h : k = i % j) (hj : 0 < j) (hi : i ≤ 1000000000000) (ho : op.op = .binOp .rem 3 x y 3) (hx : a.eval x = .int .i64 (i : Int)) (hy : a.eval y = .int .i64 (j : Int)) : (execOp a.eval op).run Try.prog w = .ok (.value (.int .i64 (k : Int))) w := by
 have hk : k ≤ i := by rw [h]; exact Nat.mod_le _ _
 have e : (i : Int).tmod (j : Int) = (k : Int) := by rw [Int.tmod_eq_emod_of_nonneg (by omega), h, Int.natCast_emod]
 have hw : IntKind.i64.wrap (k : Int) = (k : Int) := by rw [IntKind.wrap_i64]; omega
 have hz : ¬ (j : Int) = 0 := by omega
 clear h
 generalize (i : Int) = ii at *
 generalize (j : Int) = jj at *
 generalize (k : Int) = kk at *
 unfold execOp
 simp only [ho, hx, hy]
 go_simp
end
theorem results_row_slot7 {P : Program} {fn : Func} {q p : Tmp} {ty : TypeId} (h : fn.results = #[.cell p ty, .tmp q]) (tmps : Array Value) (w : World) (g : Nat) (t : TypeId) (cs : List Value) (d : TypeDesc) (v : Value)
  (hq : tmps.getD q undef = v) (hp : tmps.getD p undef = .pointer (some ⟨g, 0, none⟩)) (hg : Row w g t cs)
  (hu : P.underlying ty = some d) (hd : (match d with | .struct _ | .array _ _ => true | _ => false) = true) (hi : (P.info? ty).map (·.size) = some cs.length) :
  (results fn tmps).run P w = .ok (.tuple #[.agg cs.toArray, v]) w := by
 have hp' : tmps[p]?.getD undef = .pointer (some ⟨g, 0, none⟩) := by simpa using hp
 have hq' : tmps[q]?.getD undef = v := by simpa using hq
 simp [results, h, hp', hq', asAddr, run_loadVar_row w g t ty cs.toArray (0, 0) d hg hu hd (by simpa using hi)]
theorem ret_rs7 {P : Program} {f : Func} {a : Act} {q p : Tmp} {ty : TypeId} {d : TypeDesc} {post : Ending → World → Prop} {w : World} {g : Nat} {T : TypeId} {cs : List Value} {v : Value} (hf : f.results = #[.cell p ty, .tmp q]) (hdf : a.defers = []) (hq : a.tmps.getD q undef = v) (hp : a.tmps.getD p undef = .pointer (some ⟨g, 0, none⟩)) (hr : Row w g T cs)
  (hu : P.underlying ty = some d) (hd : (match d with | .struct _ | .array _ _ => true | _ => false) = true) (hi : (P.info? ty).map (·.size) = some cs.length) (h : post (.returned (.tuple #[.agg cs.toArray, v])) w) : bodyPost P f post .ret a w :=
 bodyPost_ret (v := .tuple #[.agg cs.toArray, v]) (results_row_slot7 hf _ _ g T cs d v hq hp hr hu hd hi) hdf h
/-- the answer is a polynomial and a code -/
def CodeIs (w : World) (p : Nat → Nat) (er : Int) (e : Ending) (w' : World) : Prop := e = .returned (.tuple #[polyV p, .int .i64 er]) ∧ Below w.heap.size w w'
set_option maxHeartbeats 2000000 in
theorem refCompress_any (d : Nat) (hd : 1 ≤ d ∧ d ≤ 11) (p : Nat → Nat) (hp : ∀ i, i < 256 → p i < 65536) (w : World) : Calls Try.prog 29 #[.int .i64 (d : Int), polyV p] w (CodeIs w (cmpP d p) 0) := by
 unfold CodeIs polyV
 generalize hN : w.heap.size = N at *
 have HP := Shh.mk hp
 have i1 : ¬ (d : Int) < 1 := by omega
 have i2 : ¬ (11 : Int) < (d : Int) := by omega
 obtain ⟨P, hPP⟩ : ∃ P, Shh (P = 2 ^ d) := ⟨_, ⟨rfl⟩⟩
 have HPB : Shh (0 < P ∧ P ≤ 2048) := ⟨by rw [hPP.out]; exact Nat.two_pow_pos d, by rw [hPP.out]; exact Nat.le_trans (Nat.pow_le_pow_right (by decide) hd.2) (by decide)⟩
 have HWD : Shh (∀ W, Calls Try.prog 50 #[.int .i64 (d : Int)] W (NumIs W P)) := ⟨fun W => by rw [hPP.out]; exact width_any d (by omega) W⟩
 have HR : Shh (∀ i, i < 256 → cmpP d p i = ((2 * (p i % 3329) * P + 3329) / (2 * 3329)) % P ∧ cmpP d p i < 65536) := ⟨fun i _ => by
  refine ⟨by unfold cmpP cmpN; rw [hPP.out], ?_⟩
  have h := cmpN_lt d (p i % 3329)
  rw [← hPP.out] at h
  have := HPB.out
  unfold cmpP
  omega⟩
 have HNE : Shh (∀ x : Nat, x < 3329 → ∀ W, Calls Try.prog 41 #[.int .i64 (x : Int), .int .i64 (P : Int), .int .i64 3329] W (NumIs W ((2 * x * P + 3329) / (2 * 3329)))) := ⟨fun x hx W => Near_any x P 3329 (by omega) (by have := HPB.out; omega) (by decide) W⟩
 generalize cmpP d p = r at *
 clear hp hd hPP
 unfold NumIs at *
 go_enter Try.func29, Try.ntmps29
 go_wp2_with (refine wl_allocP rfl rfl ?_)
 obtain ⟨W, hW⟩ : ∃ W, W = (w.alloc (.cells (pc p).toArray 24)).alloc (.cells (pc fun _ => 0).toArray 24) := ⟨_, rfl⟩
 have HW : Shh (Row W N 24 (pc p) ∧ Row W (N + 1) 24 (pc fun _ => 0) ∧ Below N w W) := by
  refine ⟨by rw [hW]; exact (Row.new_ hN.symm rfl).alloc _, by rw [hW]; exact Row.new_ (by rw [asz, hN]) rfl, ?_⟩
  rw [hW, ← hN]
  exact Below.chain (bel1 _ _) (bel1 _ _)
 try simp only [asz, hN]
 rw [← hW]
 clear hW
 go_wp2
 go_loopw [6, 14] (fun _ i wr => ∃ k : Nat, k ≤ 256 ∧ i = .int .i64 (k : Int) ∧ Shh (Row wr N 24 (pc (half r p k)) ∧ Row wr (N + 1) 24 (pc fun _ => 0) ∧ Below N w wr)) (fun _ i _ => 256 - (intOf i).toNat)
 case atStart => exact ⟨0, Nat.zero_le _, rfl, ⟨by rw [half_zero]; exact HW.out⟩⟩
 case round =>
  clear HW
  obtain ⟨k, hk, rfl, HI⟩ := hrel
  by_cases hlt : k < 256
  ·have hlt2 : (k : Int) < 256 := by omega
   have HX := Shh.mk (HR.out k hlt)
   have HPK := Shh.mk (HP.out k hlt)
   obtain ⟨V, hV⟩ : ∃ V, V = World.drew wr := ⟨_, rfl⟩
   have HIV : Shh (Row V N 24 (pc (half r p k)) ∧ Row V (N + 1) 24 (pc fun _ => 0) ∧ Below N w V) := by subst hV; exact ⟨HI.out.1.drew, HI.out.2.1.drew, HI.out.2.2.drew⟩
   have c1 : V.cell? ⟨N, k, none⟩ = some (.int .u16 (p k : Int)) := by
    have h1 := HIV.out.1.cell k
    rw [pc_get _ hlt, half_now] at h1
    exact h1
   have HQ : Shh (Row (V.setCell ⟨N, k, none⟩ (.int .u16 (r k : Int))) N 24 (pc (half r p (k + 1))) ∧ Row (V.setCell ⟨N, k, none⟩ (.int .u16 (r k : Int))) (N + 1) 24 (pc fun _ => 0) ∧ Below N w (V.setCell ⟨N, k, none⟩ (.int .u16 (r k : Int)))) := by
    have h := HIV.out.1.set_ k (.int .u16 (r k : Int))
    rw [pc_set, half_next] at h
    exact ⟨⟨h, HIV.out.2.1.other _ _ (by simp), HIV.out.2.2.setCell (p := ⟨N, k, none⟩) (Nat.le_refl _) _⟩⟩
   obtain ⟨A, HA⟩ : ∃ v, Shh (v = p k) := ⟨_, ⟨rfl⟩⟩
   rw [← HA.out] at c1 HX HPK
   obtain ⟨rk, Hrk⟩ : ∃ v, Shh (v = r k) := ⟨_, ⟨rfl⟩⟩
   rw [← Hrk.out] at HQ HX
   obtain ⟨a, Ha⟩ : ∃ v, Shh (v = A % 3329) := ⟨_, ⟨rfl⟩⟩
   have hal : a < 3329 := by rw [Ha.out]; exact Nat.mod_lt _ (by decide)
   rw [← Ha.out] at HX
   have HNA := Shh.mk (HNE.out a hal)
   have hq : (2 * a * P + 3329) / (2 * 3329) ≤ 100000000 := by
    refine Nat.le_trans (Nat.div_le_self _ _) ?_
    have h1 : 2 * a * P ≤ 6658 * 2048 := Nat.mul_le_mul (by omega) HPB.out.2
    omega
   obtain ⟨q, Hq⟩ : ∃ v, Shh (v = (2 * a * P + 3329) / (2 * 3329)) := ⟨_, ⟨rfl⟩⟩
   rw [← Hq.out] at HNA HX hq
   have VL : Shh (a < 65536 ∧ q ≤ 1000000000000 ∧ 0 < P) := ⟨by omega, by omega, HPB.out.1⟩
   clear hal hq
   clear HI HA Hrk
   go_wp2
   refine wp_region_held_drew (S := fun _ => True) (by kernel_rfl) trivial (fun hS => ?_)
   clear hS
   rw [← hV]
   clear hV
   refine share (T := ?T0) (fun hT => ?gg0) ?tt0
   case gg0 =>
    refine hdv0 0 17 (.int .i64 (k : Int)) (by rfl) (trivial) ?_
    refine hdv0 1 18 (.int .i64 (k : Int)) (by rfl) (trivial) ?_
    refine hdv 2 19 (.pointer (some ⟨N, k, none⟩)) (by rfl) (fun w hS => at_poly hlt rfl (by kernel_rfl) (by kernel_rfl)) (trivial) ?_
    refine hdv0 6 23 (.int .i64 (d : Int)) (by rfl) (trivial) ?_
    refine hdv0 9 26 (.int .i64 (d : Int)) (by rfl) (trivial) ?_
    refine held_two 3 7 (by kernel_rfl) ?_ ?_
    ·refine step_value 3 _ _ (some 20) (.int .u16 (A : Int)) V (by rfl) (by kernel_rfl) (load_u16 rfl c1 (by kernel_rfl)) (trivial) ?_
     simp only [Act.put, arr9, hd9, tl9]
     refine hdv 4 21 (.int .u16 (a : Int)) (by rfl) (fun w hS => rem_u16 Ha.out HPK.out rfl (by kernel_rfl)) (trivial) ?_
     refine hdv 5 22 (.int .i64 (a : Int)) (by rfl) (fun w hS => conv_ui16 VL.out.1 rfl (by kernel_rfl)) (trivial) ?_
     refine held_one 7 (by kernel_rfl) ?_
     refine step_call 7 _ _ (some 24) 50 #[.int .i64 (d : Int)] (by rfl) (by kernel_rfl) (by first | kernel_rfl | go_simp) ?_
     refine (HWD.out V).mono ?_
     rintro e Y2 ⟨rfl, hq⟩
     obtain rfl : V = Y2 := hq
     refine ⟨_, rfl, trivial, ?_⟩
     simp only [Act.put, arr9, hd9, tl9]
     refine held_one 8 (by kernel_rfl) ?_
     refine step_call 8 _ _ (some 25) 41 #[.int .i64 (a : Int), .int .i64 (P : Int), .int .i64 3329] (by rfl) (by kernel_rfl) (by first | kernel_rfl | go_simp) ?_
     refine (HNA.out V).mono ?_
     rintro e Y3 ⟨rfl, hq⟩
     obtain rfl : V = Y3 := hq
     refine ⟨_, rfl, trivial, ?_⟩
     simp only [Act.put, arr9, hd9, tl9]
     refine held_one 10 (by kernel_rfl) ?_
     refine step_call 10 _ _ (some 27) 50 #[.int .i64 (d : Int)] (by rfl) (by kernel_rfl) (by first | kernel_rfl | go_simp) ?_
     refine (HWD.out V).mono ?_
     rintro e Y4 ⟨rfl, hq⟩
     obtain rfl : V = Y4 := hq
     refine ⟨_, rfl, trivial, ?_⟩
     simp only [Act.put, arr9, hd9, tl9]
     exact hT.out
    ·refine step_call 7 _ _ (some 24) 50 #[.int .i64 (d : Int)] (by rfl) (by kernel_rfl) (by first | kernel_rfl | go_simp) ?_
     refine (HWD.out V).mono ?_
     rintro e Y1 ⟨rfl, hq⟩
     obtain rfl : V = Y1 := hq
     refine ⟨_, rfl, trivial, ?_⟩
     simp only [Act.put, arr9, hd9, tl9]
     refine held_one 3 (by kernel_rfl) ?_
     refine step_value 3 _ _ (some 20) (.int .u16 (A : Int)) V (by rfl) (by kernel_rfl) (load_u16 rfl c1 (by kernel_rfl)) (trivial) ?_
     simp only [Act.put, arr9, hd9, tl9]
     refine hdv 4 21 (.int .u16 (a : Int)) (by rfl) (fun w hS => rem_u16 Ha.out HPK.out rfl (by kernel_rfl)) (trivial) ?_
     refine hdv 5 22 (.int .i64 (a : Int)) (by rfl) (fun w hS => conv_ui16 VL.out.1 rfl (by kernel_rfl)) (trivial) ?_
     refine held_one 8 (by kernel_rfl) ?_
     refine step_call 8 _ _ (some 25) 41 #[.int .i64 (a : Int), .int .i64 (P : Int), .int .i64 3329] (by rfl) (by kernel_rfl) (by first | kernel_rfl | go_simp) ?_
     refine (HNA.out V).mono ?_
     rintro e Y3 ⟨rfl, hq⟩
     obtain rfl : V = Y3 := hq
     refine ⟨_, rfl, trivial, ?_⟩
     simp only [Act.put, arr9, hd9, tl9]
     refine held_one 10 (by kernel_rfl) ?_
     refine step_call 10 _ _ (some 27) 50 #[.int .i64 (d : Int)] (by rfl) (by kernel_rfl) (by first | kernel_rfl | go_simp) ?_
     refine (HWD.out V).mono ?_
     rintro e Y4 ⟨rfl, hq⟩
     obtain rfl : V = Y4 := hq
     refine ⟨_, rfl, trivial, ?_⟩
     simp only [Act.put, arr9, hd9, tl9]
     exact hT.out
   case tt0 =>
    refine hdv 11 28 (.int .i64 (rk : Int)) (by rfl) (fun w hS => rem_ij HX.out.1 VL.out.2.2 VL.out.2.1 rfl (by kernel_rfl) (by kernel_rfl)) (trivial) ?_
    refine hdv 12 29 (.int .u16 (rk : Int)) (by rfl) (fun w hS => conv_iu16 HX.out.2 rfl (by kernel_rfl)) (trivial) ?_
    refine hdv 13 30 (.pointer (some ⟨N, k, none⟩)) (by rfl) (fun w hS => at_poly hlt rfl (by kernel_rfl) (by kernel_rfl)) (trivial) ?_
    refine held_one 14 (by kernel_rfl) ?_
    refine step_store1 14 _ (by rfl) (by kernel_rfl) (V.setCell ⟨N, k, none⟩ (.int .u16 (rk : Int))) (run_storeP hlt HIV.out.1 rfl (by kernel_rfl) (by kernel_rfl)) ⟨trivial, ?_⟩
    refine wpAnyH_done (by kernel_rfl) ?_ _
    clear c1 HIV
    go_wp2
    go_roundw
    case rel => exact ⟨k + 1, by omega, by go_num, HQ⟩
    case measure => simp [intOf]; omega
  ·have HL : Shh (pc (half r p k) = pc r) := ⟨by rw [show k = 256 by omega]; exact half_all _ _⟩
   rw [HL.out] at HI
   have hlt2 : ¬ (k : Int) < 256 := by omega
   clear HL HP HR
   go_wp2_with (first
    | refine wpList_load_any rfl 24 (.tmp 3) rfl N rfl 24 (pc r) (.array 256 22) HI.out.1 Try.underlying24 rfl (info_poly.trans (size_poly r)) ?_
    | refine wpList_store_any rfl 24 (.tmp 4) (.tmp 32) rfl (N + 1) rfl (pc r) rfl 24 _ HI.out.2.1 (info_poly.trans (size_poly r)) (by rw [pc_length, pc_length]) (pc_one r) ?_)
   intro w9 hr9 b9 _
   have hb9 := HI.out.2.2.trans (b9.under (Nat.le_of_lt HI.out.1.lt) (Nat.le_succ _))
   go_wp2
   exact ret_rs7 Try.results29 rfl rfl rfl hr9 Try.underlying24 rfl (info_poly.trans (size_poly r)) ⟨rfl, hb9⟩
set_option maxHeartbeats 2000000 in
theorem refDecompress_any (d : Nat) (hd : 1 ≤ d ∧ d ≤ 11) (p : Nat → Nat) (hp : ∀ i, i < 256 → p i < 65536) (w : World) : Calls Try.prog 31 #[.int .i64 (d : Int), polyV p] w (CodeIs w (dcmP d p) 0) := by
 unfold CodeIs polyV
 generalize hN : w.heap.size = N at *
 have HP := Shh.mk hp
 have i1 : ¬ (d : Int) < 1 := by omega
 have i2 : ¬ (11 : Int) < (d : Int) := by omega
 obtain ⟨P, hPP⟩ : ∃ P, Shh (P = 2 ^ d) := ⟨_, ⟨rfl⟩⟩
 have HPB : Shh (0 < P ∧ P ≤ 2048) := ⟨by rw [hPP.out]; exact Nat.two_pow_pos d, by rw [hPP.out]; exact Nat.le_trans (Nat.pow_le_pow_right (by decide) hd.2) (by decide)⟩
 have HWD : Shh (∀ W, Calls Try.prog 50 #[.int .i64 (d : Int)] W (NumIs W P)) := ⟨fun W => by rw [hPP.out]; exact width_any d (by omega) W⟩
 have HR : Shh (∀ i, i < 256 → dcmP d p i = (2 * (p i % P) * 3329 + P) / (2 * P) ∧ dcmP d p i < 65536) := ⟨fun i _ => by
  refine ⟨by unfold dcmP dcmN; rw [hPP.out], ?_⟩
  unfold dcmP
  exact dcmN_lt d _ (by omega) (Nat.mod_lt _ (Nat.two_pow_pos d))⟩
 have HNE : Shh (∀ x : Nat, x < P → ∀ W, Calls Try.prog 41 #[.int .i64 (x : Int), .int .i64 3329, .int .i64 (P : Int)] W (NumIs W ((2 * x * 3329 + P) / (2 * P)))) := ⟨fun x hx W => Near_any x 3329 P (by have := HPB.out; omega) (by decide) ⟨HPB.out.1, by have := HPB.out; omega⟩ W⟩
 generalize dcmP d p = r at *
 clear hp hd hPP
 unfold NumIs at *
 go_enter Try.func31, Try.ntmps31
 go_wp2_with (refine wl_allocP rfl rfl ?_)
 obtain ⟨W, hW⟩ : ∃ W, W = (w.alloc (.cells (pc p).toArray 24)).alloc (.cells (pc fun _ => 0).toArray 24) := ⟨_, rfl⟩
 have HW : Shh (Row W N 24 (pc p) ∧ Row W (N + 1) 24 (pc fun _ => 0) ∧ Below N w W) := by
  refine ⟨by rw [hW]; exact (Row.new_ hN.symm rfl).alloc _, by rw [hW]; exact Row.new_ (by rw [asz, hN]) rfl, ?_⟩
  rw [hW, ← hN]
  exact Below.chain (bel1 _ _) (bel1 _ _)
 try simp only [asz, hN]
 rw [← hW]
 clear hW
 go_wp2
 go_loopw [6, 14] (fun _ i wr => ∃ k : Nat, k ≤ 256 ∧ i = .int .i64 (k : Int) ∧ Shh (Row wr N 24 (pc (half r p k)) ∧ Row wr (N + 1) 24 (pc fun _ => 0) ∧ Below N w wr)) (fun _ i _ => 256 - (intOf i).toNat)
 case atStart => exact ⟨0, Nat.zero_le _, rfl, ⟨by rw [half_zero]; exact HW.out⟩⟩
 case round =>
  clear HW
  obtain ⟨k, hk, rfl, HI⟩ := hrel
  by_cases hlt : k < 256
  ·have hlt2 : (k : Int) < 256 := by omega
   have HX := Shh.mk (HR.out k hlt)
   have HPK := Shh.mk (HP.out k hlt)
   obtain ⟨V, hV⟩ : ∃ V, V = World.drew wr := ⟨_, rfl⟩
   have HIV : Shh (Row V N 24 (pc (half r p k)) ∧ Row V (N + 1) 24 (pc fun _ => 0) ∧ Below N w V) := by subst hV; exact ⟨HI.out.1.drew, HI.out.2.1.drew, HI.out.2.2.drew⟩
   have c1 : V.cell? ⟨N, k, none⟩ = some (.int .u16 (p k : Int)) := by
    have h1 := HIV.out.1.cell k
    rw [pc_get _ hlt, half_now] at h1
    exact h1
   have HQ : Shh (Row (V.setCell ⟨N, k, none⟩ (.int .u16 (r k : Int))) N 24 (pc (half r p (k + 1))) ∧ Row (V.setCell ⟨N, k, none⟩ (.int .u16 (r k : Int))) (N + 1) 24 (pc fun _ => 0) ∧ Below N w (V.setCell ⟨N, k, none⟩ (.int .u16 (r k : Int)))) := by
    have h := HIV.out.1.set_ k (.int .u16 (r k : Int))
    rw [pc_set, half_next] at h
    exact ⟨⟨h, HIV.out.2.1.other _ _ (by simp), HIV.out.2.2.setCell (p := ⟨N, k, none⟩) (Nat.le_refl _) _⟩⟩
   obtain ⟨A, HA⟩ : ∃ v, Shh (v = p k) := ⟨_, ⟨rfl⟩⟩
   rw [← HA.out] at c1 HX HPK
   obtain ⟨rk, Hrk⟩ : ∃ v, Shh (v = r k) := ⟨_, ⟨rfl⟩⟩
   rw [← Hrk.out] at HQ HX
   obtain ⟨a, Ha⟩ : ∃ v, Shh (v = A % P) := ⟨_, ⟨rfl⟩⟩
   have hal : a < P := by rw [Ha.out]; exact Nat.mod_lt _ HPB.out.1
   rw [← Ha.out] at HX
   have HNA := Shh.mk (HNE.out a hal)
   rw [← HX.out.1] at HNA
   have VL : Shh (A ≤ 1000000000000 ∧ 0 < P) := ⟨by have := HPK.out; omega, HPB.out.1⟩
   clear hal
   clear HI HA Hrk
   go_wp2
   refine wp_region_held_drew (S := fun _ => True) (by kernel_rfl) trivial (fun hS => ?_)
   clear hS
   rw [← hV]
   clear hV
   refine share (T := ?T0) (fun hT => ?gg0) ?tt0
   case gg0 =>
    refine hdv0 0 17 (.int .i64 (k : Int)) (by rfl) (trivial) ?_
    refine hdv0 1 18 (.int .i64 (k : Int)) (by rfl) (trivial) ?_
    refine hdv 2 19 (.pointer (some ⟨N, k, none⟩)) (by rfl) (fun w hS => at_poly hlt rfl (by kernel_rfl) (by kernel_rfl)) (trivial) ?_
    refine hdv0 5 22 (.int .i64 (d : Int)) (by rfl) (trivial) ?_
    refine hdv0 8 25 (.int .i64 (d : Int)) (by rfl) (trivial) ?_
    refine held_two 3 6 (by kernel_rfl) ?_ ?_
    ·refine step_value 3 _ _ (some 20) (.int .u16 (A : Int)) V (by rfl) (by kernel_rfl) (load_u16 rfl c1 (by kernel_rfl)) (trivial) ?_
     simp only [Act.put, arr9, hd9, tl9]
     refine hdv 4 21 (.int .i64 (A : Int)) (by rfl) (fun w hS => conv_ui16 HPK.out rfl (by kernel_rfl)) (trivial) ?_
     refine held_one 6 (by kernel_rfl) ?_
     refine step_call 6 _ _ (some 23) 50 #[.int .i64 (d : Int)] (by rfl) (by kernel_rfl) (by first | kernel_rfl | go_simp) ?_
     refine (HWD.out V).mono ?_
     rintro e Y2 ⟨rfl, hq⟩
     obtain rfl : V = Y2 := hq
     refine ⟨_, rfl, trivial, ?_⟩
     simp only [Act.put, arr9, hd9, tl9]
     refine hdv 7 24 (.int .i64 (a : Int)) (by rfl) (fun w hS => rem_ij Ha.out VL.out.2 VL.out.1 rfl (by kernel_rfl) (by kernel_rfl)) (trivial) ?_
     refine held_one 9 (by kernel_rfl) ?_
     refine step_call 9 _ _ (some 26) 50 #[.int .i64 (d : Int)] (by rfl) (by kernel_rfl) (by first | kernel_rfl | go_simp) ?_
     refine (HWD.out V).mono ?_
     rintro e Y3 ⟨rfl, hq⟩
     obtain rfl : V = Y3 := hq
     refine ⟨_, rfl, trivial, ?_⟩
     simp only [Act.put, arr9, hd9, tl9]
     refine held_one 10 (by kernel_rfl) ?_
     refine step_call 10 _ _ (some 27) 41 #[.int .i64 (a : Int), .int .i64 3329, .int .i64 (P : Int)] (by rfl) (by kernel_rfl) (by first | kernel_rfl | go_simp) ?_
     refine (HNA.out V).mono ?_
     rintro e Y4 ⟨rfl, hq⟩
     obtain rfl : V = Y4 := hq
     refine ⟨_, rfl, trivial, ?_⟩
     simp only [Act.put, arr9, hd9, tl9]
     exact hT.out
    ·refine step_call 6 _ _ (some 23) 50 #[.int .i64 (d : Int)] (by rfl) (by kernel_rfl) (by first | kernel_rfl | go_simp) ?_
     refine (HWD.out V).mono ?_
     rintro e Y1 ⟨rfl, hq⟩
     obtain rfl : V = Y1 := hq
     refine ⟨_, rfl, trivial, ?_⟩
     simp only [Act.put, arr9, hd9, tl9]
     refine held_two 3 9 (by kernel_rfl) ?_ ?_
     ·refine step_value 3 _ _ (some 20) (.int .u16 (A : Int)) V (by rfl) (by kernel_rfl) (load_u16 rfl c1 (by kernel_rfl)) (trivial) ?_
      simp only [Act.put, arr9, hd9, tl9]
      refine hdv 4 21 (.int .i64 (A : Int)) (by rfl) (fun w hS => conv_ui16 HPK.out rfl (by kernel_rfl)) (trivial) ?_
      refine hdv 7 24 (.int .i64 (a : Int)) (by rfl) (fun w hS => rem_ij Ha.out VL.out.2 VL.out.1 rfl (by kernel_rfl) (by kernel_rfl)) (trivial) ?_
      refine held_one 9 (by kernel_rfl) ?_
      refine step_call 9 _ _ (some 26) 50 #[.int .i64 (d : Int)] (by rfl) (by kernel_rfl) (by first | kernel_rfl | go_simp) ?_
      refine (HWD.out V).mono ?_
      rintro e Y3 ⟨rfl, hq⟩
      obtain rfl : V = Y3 := hq
      refine ⟨_, rfl, trivial, ?_⟩
      simp only [Act.put, arr9, hd9, tl9]
      refine held_one 10 (by kernel_rfl) ?_
      refine step_call 10 _ _ (some 27) 41 #[.int .i64 (a : Int), .int .i64 3329, .int .i64 (P : Int)] (by rfl) (by kernel_rfl) (by first | kernel_rfl | go_simp) ?_
      refine (HNA.out V).mono ?_
      rintro e Y4 ⟨rfl, hq⟩
      obtain rfl : V = Y4 := hq
      refine ⟨_, rfl, trivial, ?_⟩
      simp only [Act.put, arr9, hd9, tl9]
      exact hT.out
     ·refine step_call 9 _ _ (some 26) 50 #[.int .i64 (d : Int)] (by rfl) (by kernel_rfl) (by first | kernel_rfl | go_simp) ?_
      refine (HWD.out V).mono ?_
      rintro e Y2 ⟨rfl, hq⟩
      obtain rfl : V = Y2 := hq
      refine ⟨_, rfl, trivial, ?_⟩
      simp only [Act.put, arr9, hd9, tl9]
      refine held_one 3 (by kernel_rfl) ?_
      refine step_value 3 _ _ (some 20) (.int .u16 (A : Int)) V (by rfl) (by kernel_rfl) (load_u16 rfl c1 (by kernel_rfl)) (trivial) ?_
      simp only [Act.put, arr9, hd9, tl9]
      refine hdv 4 21 (.int .i64 (A : Int)) (by rfl) (fun w hS => conv_ui16 HPK.out rfl (by kernel_rfl)) (trivial) ?_
      refine hdv 7 24 (.int .i64 (a : Int)) (by rfl) (fun w hS => rem_ij Ha.out VL.out.2 VL.out.1 rfl (by kernel_rfl) (by kernel_rfl)) (trivial) ?_
      refine held_one 10 (by kernel_rfl) ?_
      refine step_call 10 _ _ (some 27) 41 #[.int .i64 (a : Int), .int .i64 3329, .int .i64 (P : Int)] (by rfl) (by kernel_rfl) (by first | kernel_rfl | go_simp) ?_
      refine (HNA.out V).mono ?_
      rintro e Y4 ⟨rfl, hq⟩
      obtain rfl : V = Y4 := hq
      refine ⟨_, rfl, trivial, ?_⟩
      simp only [Act.put, arr9, hd9, tl9]
      exact hT.out
   case tt0 =>
    refine hdv 11 28 (.int .u16 (rk : Int)) (by rfl) (fun w hS => conv_iu16 HX.out.2 rfl (by kernel_rfl)) (trivial) ?_
    refine hdv 12 29 (.pointer (some ⟨N, k, none⟩)) (by rfl) (fun w hS => at_poly hlt rfl (by kernel_rfl) (by kernel_rfl)) (trivial) ?_
    refine held_one 13 (by kernel_rfl) ?_
    refine step_store1 13 _ (by rfl) (by kernel_rfl) (V.setCell ⟨N, k, none⟩ (.int .u16 (rk : Int))) (run_storeP hlt HIV.out.1 rfl (by kernel_rfl) (by kernel_rfl)) ⟨trivial, ?_⟩
    refine wpAnyH_done (by kernel_rfl) ?_ _
    clear c1 HIV
    go_wp2
    go_roundw
    case rel => exact ⟨k + 1, by omega, by go_num, HQ⟩
    case measure => simp [intOf]; omega
  ·have HL : Shh (pc (half r p k) = pc r) := ⟨by rw [show k = 256 by omega]; exact half_all _ _⟩
   rw [HL.out] at HI
   have hlt2 : ¬ (k : Int) < 256 := by omega
   clear HL HP HR
   go_wp2_with (first
    | refine wpList_load_any rfl 24 (.tmp 3) rfl N rfl 24 (pc r) (.array 256 22) HI.out.1 Try.underlying24 rfl (info_poly.trans (size_poly r)) ?_
    | refine wpList_store_any rfl 24 (.tmp 4) (.tmp 31) rfl (N + 1) rfl (pc r) rfl 24 _ HI.out.2.1 (info_poly.trans (size_poly r)) (by rw [pc_length, pc_length]) (pc_one r) ?_)
   intro w9 hr9 b9 _
   have hb9 := HI.out.2.2.trans (b9.under (Nat.le_of_lt HI.out.1.lt) (Nat.le_succ _))
   go_wp2
   exact ret_rs7 Try.results31 rfl rfl rfl hr9 Try.underlying24 rfl (info_poly.trans (size_poly r)) ⟨rfl, hb9⟩
end Go.Proofs.Ytfcgdjgfdbcddaa

/-
 THE PROGRAM'S OWN Compress, Decompress.
-/
namespace Go.Proofs.Ytfcgdjgfdbcddaa
open Go.RowKit
set_option maxRecDepth 100000
section
variable {ops : Array Oper} {rest : List Oper} {o : Oper} {a : Act} {w : World} {Q : Exit → Act → World → Prop} {x y : Operand} {op : Oper}
theorem build_poly (ho : op.op = .build 24 #[]) : (execOp a.eval op).run Try.prog w = .ok (.value (.agg (pc fun _ => 0).toArray)) w := by
 have h : (execOp a.eval ⟨none, .build 24 #[], 0, "", #[], none⟩).run Try.prog w = .ok (.value (.agg (pc fun _ => 0).toArray)) w := by kernel_rfl
 rw [← h]
 unfold execOp
 simp only [ho]
end
theorem cmp_eq (d x : Nat) : cmpN d x = (x * 2 ^ d + 1664) / 3329 % 2 ^ d := by
 unfold cmpN
 rw [Nat.mul_assoc]
 generalize x * 2 ^ d = X
 rw [show (2 * X + 3329) / (2 * 3329) = (X + 1664) / 3329 by omega]
theorem dcm_eq (d y : Nat) (hd : 1 ≤ d) : dcmN d y = (3329 * y + 2 ^ (d - 1)) / 2 ^ d := by
 obtain ⟨e, rfl⟩ : ∃ e, d = e + 1 := ⟨d - 1, by omega⟩
 unfold dcmN
 rw [show e + 1 - 1 = e by omega, Nat.pow_succ]
 rw [show 2 * y * 3329 + 2 ^ e * 2 = 2 * (3329 * y + 2 ^ e) by omega, Nat.mul_div_mul_left _ _ (by decide)]
set_option maxHeartbeats 2000000 in
theorem Compress_any (d : Nat) (hd : 1 ≤ d ∧ d ≤ 11) (p : Nat → Nat) (hp : ∀ i, i < 256 → p i < 65536) (w : World) : Calls Try.prog 28 #[.int .i64 (d : Int), polyV p] w (CodeIs w (cmpP d p) 0) := by
 unfold CodeIs polyV
 generalize hN : w.heap.size = N at *
 have i1 : ¬ (d : Int) < 1 := by omega
 have i2 : ¬ (12 : Int) ≤ (d : Int) := by omega
 have hd16 : d ≤ 16 := by omega
 have HRD : Shh (∀ W, Calls Try.prog 14 #[.agg (pc p).toArray] W (PolyIs W (redN p))) := ⟨fun W => Reduce_any p hp W⟩
 obtain ⟨P, hPP⟩ : ∃ P, Shh (P = 2 ^ d) := ⟨_, ⟨rfl⟩⟩
 have HPB : Shh (0 < P ∧ P ≤ 2048) := ⟨by rw [hPP.out]; exact Nat.two_pow_pos d, by rw [hPP.out]; exact Nat.le_trans (Nat.pow_le_pow_right (by decide) hd.2) (by decide)⟩
 have HLO : Shh (∀ n : Nat, n < 65536 → ∀ W, Calls Try.prog 49 #[.int .i64 (d : Int), .int .u16 (n : Int)] W (U16Is W (n % P))) := ⟨fun n hn W => by rw [hPP.out]; exact low_any d n hd16 hn W⟩
 have HR : Shh (∀ i, cmpP d p i = (redN p i * P + 1664) / 3329 % P ∧ redN p i < 3329) := ⟨fun i => ⟨by unfold cmpP; rw [cmp_eq, hPP.out, show redN p i = p i % 3329 from rd_same _], rd_lt _⟩⟩
 have HD := Shh.mk hd
 generalize cmpP d p = r at *
 generalize redN p = q at *
 clear hp hd hd16
 have HL0 : Shh (Row ((w.alloc (.cells (pc p).toArray 24)).alloc (.cells (pc fun _ => 0).toArray 24)) N 24 (pc p) ∧ Row ((w.alloc (.cells (pc p).toArray 24)).alloc (.cells (pc fun _ => 0).toArray 24)) (N + 1) 24 (pc fun _ => 0) ∧ Below N w ((w.alloc (.cells (pc p).toArray 24)).alloc (.cells (pc fun _ => 0).toArray 24))) := by
  refine ⟨(Row.new_ hN.symm rfl).alloc _, Row.new_ (by rw [asz, hN]) rfl, ?_⟩
  rw [← hN]
  exact Below.chain (bel1 _ _) (bel1 _ _)
 go_enter Try.func28, Try.ntmps28
 go_wp2_with (first | refine wl_allocP rfl rfl ?_ | refine wpList_load_any rfl 24 (.tmp 3) rfl N rfl 24 (pc p) (.array 256 22) HL0.out.1 Try.underlying24 rfl (info_poly.trans (size_poly p)) ?_ | (go_at_call 14; refine (HRD.out _).mono ?_))
 rintro e w2 ⟨rfl, b2⟩
 have HW : Shh (Row w2 N 24 (pc p) ∧ Row w2 (N + 1) 24 (pc fun _ => 0) ∧ Below N w w2) := ⟨HL0.out.1.go b2, HL0.out.2.1.go b2, HL0.out.2.2.trans (b2.mono (by have := HL0.out.1.lt; omega))⟩
 clear b2 HL0 HRD
 go_wp2
 go_loopw [17] (fun i wr => ∃ k : Nat, k ≤ 256 ∧ i = .int .i64 (k : Int) ∧ Shh (Row wr N 24 (pc (half r p k)) ∧ Row wr (N + 1) 24 (pc fun _ => 0) ∧ Below N w wr)) (fun i _ => 256 - (intOf i).toNat)
 case atStart => exact ⟨0, Nat.zero_le _, rfl, ⟨by rw [half_zero]; exact HW.out⟩⟩
 case round =>
  clear HW
  obtain ⟨k, hk, rfl, HI⟩ := hrel
  by_cases hlt : k < 256
  ·have hlt2 : (k : Int) < 256 := by omega
   have HX := HR.out k
   have HN2 := Shh.mk (half_next r p k)
   have HG := Shh.mk (pc_get q hlt)
   generalize r k = rk at *
   generalize q k = qk at *
   obtain ⟨X, hX⟩ : ∃ v, Shh (v = qk * P) := ⟨_, ⟨rfl⟩⟩
   have hXl : X ≤ 3329 * 2048 := by rw [hX.out]; exact Nat.mul_le_mul (by omega) HPB.out.2
   rw [← hX.out] at HX
   obtain ⟨Y, hY⟩ : ∃ v, Shh (v = X + 1664 ∧ v < 4294967296) := ⟨_, ⟨rfl, by omega⟩⟩
   rw [← hY.out.1] at HX
   obtain ⟨Z, hZ⟩ : ∃ v, Shh (v = Y / 3329) := ⟨_, ⟨rfl⟩⟩
   rw [← hZ.out] at HX
   have hZl : Z < 65536 := by have := hZ.out; have := hY.out; omega
   have HV : Shh (X = qk * 2 ^ d ∧ d ≤ 31 ∧ X < 4294967296 ∧ qk < 65536 ∧ Z = Z % 65536) := ⟨by rw [← hPP.out]; exact hX.out, by have := HD.out; omega, by omega, by omega, by omega⟩
   have C1 : Shh (∀ W, Calls Try.prog 49 #[.int .i64 (d : Int), .int .u16 (Z : Int)] W (U16Is W rk)) := ⟨fun W => by rw [HX.1]; exact HLO.out Z hZl W⟩
   clear HX hXl hZl
   go_wp2_with (first | refine wl_at 20 rfl (.int .u16 (qk : Int)) rfl (idx_poly hlt HG.out rfl rfl rfl) ?_ | refine wl_at 24 rfl (.int .u32 (qk : Int)) rfl (conv_u32 HV.out.2.2.2.1 rfl rfl) ?_ | refine wl_at 26 rfl (.int .u32 (X : Int)) rfl (shl_32 (n := qk) (d := d) HV.out.1 HV.out.2.1 HV.out.2.2.1 rfl rfl rfl) ?_ | refine wl_at 27 rfl (.int .u32 (Y : Int)) rfl (add_32 (i := X) (j := 1664) hY.out rfl rfl rfl) ?_ | refine wl_at 28 rfl (.int .u32 (Z : Int)) rfl (quo_32q (n := Y) hZ.out hY.out.2 rfl rfl) ?_ | refine wl_at 29 rfl (.int .u16 (Z : Int)) rfl (conv_32 (n := Z) HV.out.2.2.2.2 rfl rfl) ?_ | (go_at_call 49; refine (C1.out _).mono ?_))
   rintro e w2 ⟨rfl, rfl⟩
   go_wp2_with (first | refine wl_at 31 rfl (.pointer (some ⟨N, k, none⟩)) rfl (at_poly hlt rfl rfl rfl) ?_ | refine wl_storeP rfl hlt rfl rfl rfl HI.out.1 ?_)
   intro w3 r3 b3 z3
   rw [HN2.out] at r3
   have HI3 : Shh (Row w3 N 24 (pc (half r p (k + 1))) ∧ Row w3 (N + 1) 24 (pc fun _ => 0) ∧ Below N w w3) := ⟨r3, b3.row HI.out.2.1 HI.out.2.1.lt (by omega), HI.out.2.2.trans (b3.under (Nat.le_of_lt HI.out.1.lt) (by omega))⟩
   clear r3 b3 z3 HI
   go_wp2
   go_roundw
   case rel => exact ⟨k + 1, by omega, by go_num, HI3⟩
   case measure => simp [intOf]; omega
  ·have HL : Shh (pc (half r p k) = pc r) := ⟨by rw [show k = 256 by omega]; exact half_all _ _⟩
   rw [HL.out] at HI
   have hlt2 : ¬ (k : Int) < 256 := by omega
   clear HL HR HLO
   go_wp2_with (first
    | refine wpList_load_any rfl 24 (.tmp 3) rfl N rfl 24 (pc r) (.array 256 22) HI.out.1 Try.underlying24 rfl (info_poly.trans (size_poly r)) ?_
    | refine wpList_store_any rfl 24 (.tmp 4) (.tmp 33) rfl (N + 1) rfl (pc r) rfl 24 _ HI.out.2.1 (info_poly.trans (size_poly r)) (by rw [pc_length, pc_length]) (pc_one r) ?_)
   intro w9 hr9 b9 _
   have hb9 := HI.out.2.2.trans (b9.under (Nat.le_of_lt HI.out.1.lt) (Nat.le_succ _))
   go_wp2
   exact ret_rs7 Try.results28 rfl rfl rfl hr9 Try.underlying24 rfl (info_poly.trans (size_poly r)) ⟨rfl, hb9⟩
set_option maxHeartbeats 2000000 in
theorem Decompress_any (d : Nat) (hd : 1 ≤ d ∧ d ≤ 11) (p : Nat → Nat) (hp : ∀ i, i < 256 → p i < 65536) (w : World) : Calls Try.prog 30 #[.int .i64 (d : Int), polyV p] w (CodeIs w (dcmP d p) 0) := by
 unfold CodeIs polyV
 generalize hN : w.heap.size = N at *
 have i1 : ¬ (d : Int) < 1 := by omega
 have i2 : ¬ (12 : Int) ≤ (d : Int) := by omega
 have hd16 : d ≤ 16 := by omega
 obtain ⟨P, hPP⟩ : ∃ P, Shh (P = 2 ^ d) := ⟨_, ⟨rfl⟩⟩
 have HPB : Shh (0 < P ∧ P ≤ 2048) := ⟨by rw [hPP.out]; exact Nat.two_pow_pos d, by rw [hPP.out]; exact Nat.le_trans (Nat.pow_le_pow_right (by decide) hd.2) (by decide)⟩
 obtain ⟨d0, hd0⟩ : ∃ e, Shh (d = e + 1 ∧ d ≤ 1000000000000) := ⟨d - 1, ⟨by omega, by omega⟩⟩
 obtain ⟨B, hB⟩ : ∃ B, Shh (B = 1 * 2 ^ d0 ∧ B = 2 ^ (d - 1)) := ⟨_, ⟨rfl, by rw [Nat.one_mul]; congr 1; have := hd0.out; omega⟩⟩
 have HBB : Shh (B ≤ 2048 ∧ d0 ≤ 31 ∧ B < 4294967296) := ⟨by
  have h1 : 2 ^ (d - 1) ≤ 2 ^ 11 := Nat.pow_le_pow_right (by decide) (by omega)
  have h2 := hB.out.2
  have h3 : 2 ^ 11 = 2048 := rfl
  have h4 := hd0.out
  refine ⟨?_, ?_, ?_⟩ <;> omega⟩
 have HLO : Shh (∀ n : Nat, n < 65536 → ∀ W, Calls Try.prog 49 #[.int .i64 (d : Int), .int .u16 (n : Int)] W (U16Is W (n % P))) := ⟨fun n hn W => by rw [hPP.out]; exact low_any d n hd16 hn W⟩
 have HR : Shh (∀ i, i < 256 → dcmP d p i = (3329 * (p i % P) + B) / P ∧ p i < 65536 ∧ dcmP d p i < 65536) := ⟨fun i hi => ⟨by unfold dcmP; rw [dcm_eq d _ hd.1, hPP.out, ← hB.out.2], hp i hi, dcmN_lt d _ (by omega) (Nat.mod_lt _ (Nat.two_pow_pos d))⟩⟩
 have HD := Shh.mk hd
 generalize dcmP d p = r at *
 clear hp hd hd16
 have HL0 : Shh (Row ((w.alloc (.cells (pc p).toArray 24)).alloc (.cells (pc fun _ => 0).toArray 24)) N 24 (pc p)) := ⟨(Row.new_ hN.symm rfl).alloc _⟩
 go_enter Try.func30, Try.ntmps30
 go_wp2_with (first | refine wl_allocP rfl rfl ?_ | refine wl_at 17 rfl (.int .i64 (d0 : Int)) rfl (sub_ii (i := d) (j := 1) hd0.out rfl rfl rfl) ?_ | refine wl_at 18 rfl (.int .u32 (B : Int)) rfl (shl_32 (n := 1) (d := d0) hB.out.1 HBB.out.2.1 HBB.out.2.2 rfl rfl rfl) ?_ | refine wpList_load_any rfl 24 (.tmp 3) rfl N rfl 24 (pc p) (.array 256 22) HL0.out Try.underlying24 rfl (info_poly.trans (size_poly p)) ?_)
 obtain ⟨W, hW⟩ : ∃ W, W = (w.alloc (.cells (pc p).toArray 24)).alloc (.cells (pc fun _ => 0).toArray 24) := ⟨_, rfl⟩
 have HW : Shh (Row W N 24 (pc p) ∧ Row W (N + 1) 24 (pc fun _ => 0) ∧ Below N w W) := by
  refine ⟨by rw [hW]; exact (Row.new_ hN.symm rfl).alloc _, by rw [hW]; exact Row.new_ (by rw [asz, hN]) rfl, ?_⟩
  rw [hW, ← hN]
  exact Below.chain (bel1 _ _) (bel1 _ _)
 try simp only [asz, hN]
 rw [← hW]
 clear hW HL0
 go_wp2
 go_loopw [20] (fun i wr => ∃ k : Nat, k ≤ 256 ∧ i = .int .i64 (k : Int) ∧ Shh (Row wr N 24 (pc (half r p k)) ∧ Row wr (N + 1) 24 (pc fun _ => 0) ∧ Below N w wr)) (fun i _ => 256 - (intOf i).toNat)
 case atStart => exact ⟨0, Nat.zero_le _, rfl, ⟨by rw [half_zero]; exact HW.out⟩⟩
 case round =>
  clear HW
  obtain ⟨k, hk, rfl, HI⟩ := hrel
  by_cases hlt : k < 256
  ·have hlt2 : (k : Int) < 256 := by omega
   have HX := HR.out k hlt
   have HN2 := Shh.mk (half_next r p k)
   have HG := Shh.mk (pc_get p hlt)
   generalize r k = rk at *
   generalize p k = pk at *
   obtain ⟨x, hx⟩ : ∃ v, Shh (v = pk % P) := ⟨_, ⟨rfl⟩⟩
   have hxl : x < 2048 := by have h := Nat.mod_lt pk HPB.out.1; have h2 := HPB.out.2; have h3 := hx.out; omega
   rw [← hx.out] at HX
   obtain ⟨X, hX⟩ : ∃ v, Shh (v = 3329 * x) := ⟨_, ⟨rfl⟩⟩
   have hXl : X ≤ 3329 * 2048 := by rw [hX.out]; omega
   rw [← hX.out] at HX
   obtain ⟨Y, hY⟩ : ∃ v, Shh (v = X + B ∧ v < 4294967296) := ⟨_, ⟨rfl, by have := HBB.out; omega⟩⟩
   rw [← hY.out.1] at HX
   have HV : Shh (x < 65536 ∧ X < 4294967296 ∧ rk = Y / 2 ^ d ∧ d ≤ 31 ∧ rk = rk % 65536) := ⟨by omega, by omega, by rw [HX.1, hPP.out], by have := HD.out; omega, by omega⟩
   have C1 : Shh (∀ W, Calls Try.prog 49 #[.int .i64 (d : Int), .int .u16 (pk : Int)] W (U16Is W x)) := ⟨fun W => by rw [hx.out]; exact HLO.out pk HX.2.1 W⟩
   clear HX hXl hxl
   go_wp2_with (first | refine wl_at 23 rfl (.int .u16 (pk : Int)) rfl (idx_poly hlt HG.out rfl rfl rfl) ?_ | (go_at_call 49; refine (C1.out _).mono ?_))
   rintro e w2 ⟨rfl, rfl⟩
   go_wp2_with (first | refine wl_at 28 rfl (.int .u32 (x : Int)) rfl (conv_u32 HV.out.1 rfl rfl) ?_ | refine wl_at 29 rfl (.int .u32 (X : Int)) rfl (mul_32 (i := 3329) (j := x) hX.out HV.out.2.1 rfl rfl rfl) ?_ | refine wl_at 31 rfl (.int .u32 (Y : Int)) rfl (add_32 (i := X) (j := B) hY.out rfl rfl rfl) ?_ | refine wl_at 33 rfl (.int .u32 (rk : Int)) rfl (shr_32 (n := Y) (d := d) HV.out.2.2.1 HV.out.2.2.2.1 hY.out.2 rfl rfl rfl) ?_ | refine wl_at 34 rfl (.int .u16 (rk : Int)) rfl (conv_32 (n := rk) HV.out.2.2.2.2 rfl rfl) ?_ | refine wl_at 35 rfl (.pointer (some ⟨N, k, none⟩)) rfl (at_poly hlt rfl rfl rfl) ?_ | refine wl_storeP rfl hlt rfl rfl rfl HI.out.1 ?_)
   intro w3 r3 b3 z3
   rw [HN2.out] at r3
   have HI3 : Shh (Row w3 N 24 (pc (half r p (k + 1))) ∧ Row w3 (N + 1) 24 (pc fun _ => 0) ∧ Below N w w3) := ⟨r3, b3.row HI.out.2.1 HI.out.2.1.lt (by omega), HI.out.2.2.trans (b3.under (Nat.le_of_lt HI.out.1.lt) (by omega))⟩
   clear r3 b3 z3 HI
   go_wp2
   go_roundw
   case rel => exact ⟨k + 1, by omega, by go_num, HI3⟩
   case measure => simp [intOf]; omega
  ·have HL : Shh (pc (half r p k) = pc r) := ⟨by rw [show k = 256 by omega]; exact half_all _ _⟩
   rw [HL.out] at HI
   have hlt2 : ¬ (k : Int) < 256 := by omega
   clear HL HR HLO
   go_wp2_with (first
    | refine wpList_load_any rfl 24 (.tmp 3) rfl N rfl 24 (pc r) (.array 256 22) HI.out.1 Try.underlying24 rfl (info_poly.trans (size_poly r)) ?_
    | refine wpList_store_any rfl 24 (.tmp 4) (.tmp 37) rfl (N + 1) rfl (pc r) rfl 24 _ HI.out.2.1 (info_poly.trans (size_poly r)) (by rw [pc_length, pc_length]) (pc_one r) ?_)
   intro w9 hr9 b9 _
   have hb9 := HI.out.2.2.trans (b9.under (Nat.le_of_lt HI.out.1.lt) (Nat.le_succ _))
   go_wp2
   exact ret_rs7 Try.results30 rfl rfl rfl hr9 Try.underlying24 rfl (info_poly.trans (size_poly r)) ⟨rfl, hb9⟩
end Go.Proofs.Ytfcgdjgfdbcddaa

/-
 A NEW VARIABLE OF THE TYPE Poly: laid and filled in one step.
-/
namespace Go.Proofs.Ytfcgdjgfdbcddaa
open Go.RowKit
set_option maxRecDepth 100000
section
variable {ops : Array Oper} {rest : List Oper} {o1 o2 : Oper} {a : Act} {w : World} {Q : Exit → Act → World → Prop} {y : Operand}
theorem wl_newP (d : Nat) (q : Nat → Nat) (hg1 : o1.guard = none) (hg2 : o2.guard = none) (hd : o1.dst = some d) (hd2 : o2.dst = none) (h1 : o1.op = .alloc 24) (h2 : o2.op = .store 24 (.tmp d) y)
 (hx : (a.put (some d) (.pointer (some ⟨w.heap.size, 0, none⟩))).eval (.tmp d) = .pointer (some ⟨w.heap.size, 0, none⟩)) (hy : (a.put (some d) (.pointer (some ⟨w.heap.size, 0, none⟩))).eval y = .agg (pc q).toArray)
 (h : ∀ g w2, Shh (g = w.heap.size) → Row w2 g 24 (pc q) → Below w.heap.size w w2 → wpList Try.prog ops Q rest (a.put (some d) (.pointer (some ⟨g, 0, none⟩))) w2) : wpList Try.prog ops Q (o1 :: o2 :: rest) a w := by
 refine wl_allocP hg1 h1 ?_
 rw [hd]
 refine wpList_store_any hg2 24 (.tmp d) y h2 w.heap.size hx (pc q) hy 24 (pc fun _ => 0) (Row.new_ rfl rfl) (info_poly.trans (size_poly q)) (by rw [pc_length, pc_length]) (pc_one q) ?_
 intro w2 r b z
 rw [hd2]
 exact h _ w2 ⟨rfl⟩ r ((bel1 w _).trans (b.under (by rw [asz]; omega) (Nat.le_refl _)))
end
end Go.Proofs.Ytfcgdjgfdbcddaa

/-
 THE CHAPTER'S EXAMPLES: live.
-/
namespace Go.Proofs.Ytfcgdjgfdbcddaa
open Go.RowKit
set_option maxRecDepth 100000
def e1P (i : Nat) : Nat := if i = 0 then 1 else 0
def e2P (i : Nat) : Nat := if i = 0 then 833 else if i = 1 then 832 else 0
section
variable {a : Act} {w : World} {op : Oper}
theorem build_e1 (ho : op.op = .build 24 #[(0, .const (.int .u16 1))]) : (execOp a.eval op).run Try.prog w = .ok (.value (.agg (pc e1P).toArray)) w := by
 have h : (execOp a.eval ⟨none, .build 24 #[(0, .const (.int .u16 1))], 0, "", #[], none⟩).run Try.prog w = .ok (.value (.agg (pc e1P).toArray)) w := by kernel_rfl
 rw [← h]
 unfold execOp
 simp only [ho]
theorem build_e2 (ho : op.op = .build 24 #[(0, .const (.int .u16 833)), (1, .const (.int .u16 832))]) : (execOp a.eval op).run Try.prog w = .ok (.value (.agg (pc e2P).toArray)) w := by
 have h : (execOp a.eval ⟨none, .build 24 #[(0, .const (.int .u16 833)), (1, .const (.int .u16 832))], 0, "", #[], none⟩).run Try.prog w = .ok (.value (.agg (pc e2P).toArray)) w := by kernel_rfl
 rw [← h]
 unfold execOp
 simp only [ho]
end
theorem e1_lt (i : Nat) (_ : i < 256) : e1P i < 65536 := by unfold e1P; split <;> decide
theorem e2_lt (i : Nat) (_ : i < 256) : e2P i < 65536 := by unfold e2P; split <;> (try split) <;> decide
theorem e1_ntt : nttN e1P 0 = 1 ∧ nttN e1P 1 = 0 ∧ nttN e1P 2 = 1 ∧ nttN e1P 254 = 1 := by
 have h0 := hz_even e1P 0
 have h1 := hz_odd e1P 0
 have h2 := hz_even e1P 1
 have h3 := hz_even e1P 127
 refine ⟨h0.symm.trans ?_, h1.symm.trans ?_, h2.symm.trans ?_, h3.symm.trans ?_⟩ <;> decide +kernel
theorem e2_cmp : cmpP 1 e2P 0 = 1 ∧ cmpP 1 e2P 1 = 0 := by decide +kernel
theorem e1_dcm : dcmP 1 e1P 0 = 1665 := by decide +kernel
set_option maxHeartbeats 2000000 in
theorem live13 (w : World) : Calls Try.prog 13 #[] w (TrueIs w) := by
 unfold TrueIs
 generalize hN : w.heap.size = N at *
 obtain ⟨pa, HA, HAv⟩ : ∃ p : Nat → Nat, Shh (∀ W, Calls Try.prog 22 #[.agg (pc e1P).toArray] W (PolyIs W p)) ∧ Shh (p 0 = 1 ∧ p 1 = 0 ∧ p 2 = 1 ∧ p 254 = 1) := ⟨nttN e1P, ⟨fun W => Ntt_any e1P e1_lt W⟩, ⟨e1_ntt⟩⟩
 obtain ⟨pb, HB, HBv⟩ : ∃ p : Nat → Nat, Shh (∀ W, Calls Try.prog 28 #[.int .i64 1, .agg (pc e2P).toArray] W (CodeIs W p 0)) ∧ Shh (p 0 = 1 ∧ p 1 = 0) := ⟨cmpP 1 e2P, ⟨fun W => Compress_any 1 ⟨by decide, by decide⟩ e2P e2_lt W⟩, ⟨e2_cmp⟩⟩
 obtain ⟨pd, HD, HDv⟩ : ∃ p : Nat → Nat, Shh (∀ W, Calls Try.prog 30 #[.int .i64 1, .agg (pc e1P).toArray] W (CodeIs W p 0)) ∧ Shh (p 0 = 1665) := ⟨dcmP 1 e1P, ⟨fun W => Decompress_any 1 ⟨by decide, by decide⟩ e1P e1_lt W⟩, ⟨e1_dcm⟩⟩
 go_enter Try.func13, Try.ntmps13
 go_wp2_with (first | refine wl_at 6 rfl (.agg (pc e1P).toArray) rfl (build_e1 rfl) ?_ | (go_at_call 22; refine (HA.out _).mono ?_))
 rintro e w2 ⟨rfl, b2⟩
 rw [hN] at b2
 have HX : Shh (Below N w w2) := ⟨b2⟩
 clear b2
 go_wp2_with (refine wl_newP 1 pa rfl rfl rfl rfl rfl rfl rfl rfl ?_)
 intro G1 w3 hG1 r3 b3
 simp only [Act.put, arr9, hd9, tl9]
 have HI : Shh (Row w3 G1 24 (pc pa) ∧ Below N w w3) := ⟨r3, HX.out.trans (b3.mono (by have := HX.out.size; omega))⟩
 clear r3 b3 HX
 go_wp2_with (first | refine wl_at 9 rfl (.agg (pc e2P).toArray) rfl (build_e2 rfl) ?_ | (go_at_call 28; refine (HB.out _).mono ?_))
 rintro e w4 ⟨rfl, b2⟩
 have HX : Shh (Row w4 G1 24 (pc pa) ∧ Below N w w4) := ⟨HI.out.1.go b2, HI.out.2.trans (b2.mono (by have := HI.out.2.size; omega))⟩
 clear b2 HI
 go_wp2_with (refine wl_newP 2 pb rfl rfl rfl rfl rfl rfl rfl rfl ?_)
 intro G2 w5 hG2 r3 b3
 simp only [Act.put, arr9, hd9, tl9]
 have HI : Shh (Row w5 G1 24 (pc pa) ∧ Row w5 G2 24 (pc pb) ∧ Below N w w5) := ⟨HX.out.1.go b3, r3, HX.out.2.trans (b3.mono (by have := HX.out.2.size; omega))⟩
 clear r3 b3 HX
 go_wp2_with (first | refine wl_at 14 rfl (.agg (pc e1P).toArray) rfl (build_e1 rfl) ?_ | (go_at_call 30; refine (HD.out _).mono ?_))
 rintro e w6 ⟨rfl, b2⟩
 have HX : Shh (Row w6 G1 24 (pc pa) ∧ Row w6 G2 24 (pc pb) ∧ Below N w w6) := ⟨HI.out.1.go b2, HI.out.2.1.go b2, HI.out.2.2.trans (b2.mono (by have := HI.out.2.2.size; omega))⟩
 clear b2 HI
 go_wp2_with (refine wl_newP 4 pd rfl rfl rfl rfl rfl rfl rfl rfl ?_)
 intro G3 w7 hG3 r3 b3
 simp only [Act.put, arr9, hd9, tl9]
 have HI : Shh (Row w7 G1 24 (pc pa) ∧ Row w7 G2 24 (pc pb) ∧ Row w7 G3 24 (pc pd) ∧ Below N w w7) := ⟨HX.out.1.go b3, HX.out.2.1.go b3, r3, HX.out.2.2.trans (b3.mono (by have := HX.out.2.2.size; omega))⟩
 clear r3 b3 HX
 have c0 := HI.out.1.cell 0
 rw [pc_get _ (by decide), HAv.out.1] at c0
 have c1 := HI.out.1.cell 1
 rw [pc_get _ (by decide), HAv.out.2.1] at c1
 have c2 := HI.out.1.cell 2
 rw [pc_get _ (by decide), HAv.out.2.2.1] at c2
 have c3 := HI.out.1.cell 254
 rw [pc_get _ (by decide), HAv.out.2.2.2] at c3
 have c4 := HI.out.2.1.cell 0
 rw [pc_get _ (by decide), HBv.out.1] at c4
 have c5 := HI.out.2.1.cell 1
 rw [pc_get _ (by decide), HBv.out.2] at c5
 have c6 := HI.out.2.2.1.cell 0
 rw [pc_get _ (by decide), HDv.out] at c6
 go_wp2
 go_ret
 exact ⟨rfl, HI.out.2.2.2⟩
end Go.Proofs.Ytfcgdjgfdbcddaa

/-
 WORDS for the laws: three ready operations; '!=' of arrays; a new polynomial in a drawn region.
-/
namespace Go.Proofs.Ytfcgdjgfdbcddaa
open Go.RowKit
set_option maxRecDepth 100000
section
variable {P : Program} {md : Region.Mode} {ops : Array Oper} {Q : Exit → Act → World → Prop} {S : World → Prop} {fuel : Nat} {listed : Array Bool} {a : Act} {w : World}
theorem held_three (i j k : Nat) (hr : Region.ready md ops listed = [i, j, k]) (h1 : HStep P md ops Q S fuel listed a w i) (h2 : HStep P md ops Q S fuel listed a w j) (h3 : HStep P md ops Q S fuel listed a w k) : wpAnyH P md ops Q S (fuel + 1) listed a w :=
 wpAnyH_all hr (by simp) fun m hm => by
  simp only [List.mem_cons, List.not_mem_nil, or_false] at hm
  rcases hm with rfl | rfl | rfl
  ·exact h1
  ·exact h2
  ·exact h3
end
theorem run_neq_agg {P : Program} {w : World} {x y : Operand} {ρ : Operand → Value} {p q : Array Value} {T U ty : TypeId} {d : Option Tmp} {r : Bool} (hg : P.eqGuardType P.depth T = false) (heq : (Op.equalIn 10000 T (.agg p) (.agg q)).run P w = .ok r w) (hx : ρ x = .agg p) (hy : ρ y = .agg q) :
 (execOp ρ ⟨d, .binOp .neq T x y U, ty, "", #[], none⟩).run P w = .ok (.value (.bool (!r))) w := by
 have hbin : (binOp .neq T (.agg p) (.agg q)).run P w = .ok (.bool (!r)) w := by
  have e : binOp .neq T (.agg p) (.agg q) = (do pure (.bool (!(← Op.equal T (.agg p) (.agg q))))) := by rfl
  have e2 : Op.equal T (.agg p) (.agg q) = Op.equalIn 10000 T (.agg p) (.agg q) := by rfl
  rw [e, e2, Sem.run_bind, heq]
  rfl
 have hgd : (eqGuard .neq T x y (.agg p) (.agg q)).run P w = .ok () w := by
  unfold eqGuard
  simp [go_sem, hg]
 unfold execOp
 simp only [hx, hy, Sem.run_bind, hgd, hbin, Result.andThen_ok]
 rfl
theorem run_neq_same {P : Program} {w : World} {x y : Operand} {ρ : Operand → Value} {p q : Array Value} {T U ty : TypeId} {d : Option Tmp} (hg : P.eqGuardType P.depth T = false) (heq : (Op.equalIn 10000 T (.agg p) (.agg q)).run P w = .ok true w) (hx : ρ x = .agg p) (hy : ρ y = .agg q) :
 (execOp ρ ⟨d, .binOp .neq T x y U, ty, "", #[], none⟩).run P w = .ok (.value (.bool false)) w := run_neq_agg hg heq hx hy
section
variable {a : Act} {op : Oper} {w : World}
theorem run_allocP (ho : op.op = .alloc 24) : (execOp a.eval op).run Try.prog w = .ok (.value (.pointer (some ⟨w.heap.size, 0, none⟩))) (w.alloc (.cells (pc fun _ => 0).toArray 24)) := by
 have hz := zero_poly w
 unfold execOp
 simp only [ho]
 generalize pc (fun _ => 0) = z at *
 go_simp
end
end Go.Proofs.Ytfcgdjgfdbcddaa

/-
 LOADS AND COMPARISONS under a guard that holds, in an undrawn list.
-/
namespace Go.Proofs.Ytfcgdjgfdbcddaa
open Go.RowKit
set_option maxRecDepth 100000
theorem wl_wanted {P : Program} {ops : Array Oper} {rest : List Oper} {o : Oper} {a : Act} {w : World} {Q : Exit → Act → World → Prop} (hw : Region.wanted o (yielded ops a.tmps) = true)
  (h : ∀ K : Act → World → Prop, (∀ a w, wpList P ops Q rest a w → K a w) → o.wp P a w K Q) : wpList P ops Q (o :: rest) a w :=
 wpList_step fun K hK => by rw [if_pos hw]; exact h K hK
/-- a load of a row, whatever its guard -/
theorem wl_loadW {P : Program} {ops : Array Oper} {rest : List Oper} {o : Oper} {a : Act} {w : World} {Q : Exit → Act → World → Prop} (ty : TypeId) (x : Operand) (ho : o.op = .load ty x)
  (g : Nat) (hx : a.eval x = .pointer (some ⟨g, 0, none⟩)) (t : TypeId) (cs : List Value) (d : TypeDesc) (hw : Region.wanted o (yielded ops a.tmps) = true) (hr : Row w g t cs)
  (hu : P.underlying ty = some d) (hd : (match d with | .struct _ | .array _ _ => true | _ => false) = true) (hi : (P.info? ty).map (·.size) = some cs.length)
  (h : wpList P ops Q rest (a.put o.dst (.agg cs.toArray)) w) : wpList P ops Q (o :: rest) a w :=
 wl_wanted hw fun _ hK => wp_load_row ty x ho g hx t cs.toArray (0, 0) d hr hu hd (by simpa using hi) (hK _ _ h)
/-- a comparison of two rows, whatever its guard -/
theorem wl_eqlW {P : Program} {ops : Array Oper} {rest : List Oper} {o : Oper} {a : Act} {w : World} {Q : Exit → Act → World → Prop} (T U : TypeId) (x y : Operand) (ho : o.op = .binOp .eql T x y U)
  (p q : Array Value) (hx : a.eval x = .agg p) (hy : a.eval y = .agg q) (hw : Region.wanted o (yielded ops a.tmps) = true) (hg : P.eqGuardType P.depth T = false) (r : Bool) (heq : (Op.equalIn 10000 T (.agg p) (.agg q)).run P w = .ok r w)
  (h : wpList P ops Q rest (a.put o.dst (.bool r)) w) : wpList P ops Q (o :: rest) a w := by
 refine wl_wanted hw fun K hK => ?_
 obtain ⟨dst, op, ty, pos, after, guard⟩ := o
 obtain rfl := ho
 have hrun := run_eql_agg (P := P) (w := w) (x := x) (y := y) (ρ := a.eval) (p := p) (q := q) (T := T) (U := U) (ty := ty) (d := dst) (r := r) hg heq hx hy
 have hrun' : (execOp a.eval ⟨dst, .binOp .eql T x y U, ty, pos, after, guard⟩).run P w = .ok (.value (.bool r)) w := by
  rw [← hrun]
  unfold execOp
  rfl
 unfold Oper.wp
 rw [hrun', Oper.upon_value]
 exact hK _ _ h
theorem wl_neqW {P : Program} {ops : Array Oper} {rest : List Oper} {o : Oper} {a : Act} {w : World} {Q : Exit → Act → World → Prop} (T U : TypeId) (x y : Operand) (ho : o.op = .binOp .neq T x y U)
  (p q : Array Value) (hx : a.eval x = .agg p) (hy : a.eval y = .agg q) (hw : Region.wanted o (yielded ops a.tmps) = true) (hg : P.eqGuardType P.depth T = false) (r : Bool) (heq : (Op.equalIn 10000 T (.agg p) (.agg q)).run P w = .ok r w)
  (h : wpList P ops Q rest (a.put o.dst (.bool (!r))) w) : wpList P ops Q (o :: rest) a w := by
 refine wl_wanted hw fun K hK => ?_
 obtain ⟨dst, op, ty, pos, after, guard⟩ := o
 obtain rfl := ho
 have hrun := run_neq_agg (P := P) (w := w) (x := x) (y := y) (ρ := a.eval) (p := p) (q := q) (T := T) (U := U) (ty := ty) (d := dst) (r := r) hg heq hx hy
 have hrun' : (execOp a.eval ⟨dst, .binOp .neq T x y U, ty, pos, after, guard⟩).run P w = .ok (.value (.bool (!r))) w := by
  rw [← hrun]
  unfold execOp
  rfl
 unfold Oper.wp
 rw [hrun', Oper.upon_value]
 exact hK _ _ h
section
variable {ops : Array Oper} {rest : List Oper} {o : Oper} {a : Act} {w : World} {Q : Exit → Act → World → Prop}
theorem wl_atW (d : Nat) (hd : o.dst = some d) (v : Value) (hw : Region.wanted o (yielded ops a.tmps) = true) (hrun : (execOp a.eval o).run Try.prog w = .ok (.value v) w) {a2 : Act} (h : wpList Try.prog ops Q rest a2 w) (ha : a.put (some d) v = a2 := by ((try simp only [Act.put, arr9, hd9, tl9]); rfl)) : wpList Try.prog ops Q (o :: rest) a w := by
 refine wl_wanted hw fun K hK => ?_
 unfold Oper.wp
 rw [hrun, Oper.upon_value, hd, ha]
 exact hK _ _ h
end
end Go.Proofs.Ytfcgdjgfdbcddaa

/-
 Compress, Decompress for other numbers of bits: the program's own and the document's.
-/
namespace Go.Proofs.Ytfcgdjgfdbcddaa
open Go.RowKit
set_option maxRecDepth 100000
set_option maxHeartbeats 1000000 in
theorem Compress_bad (n : Int) (hn : n < 1 ∨ 11 < n) (p : Nat → Nat) (w : World) : Calls Try.prog 28 #[.int .i64 n, polyV p] w (CodeIs w (fun _ => 0) 1) := by
 unfold CodeIs polyV
 generalize hN : w.heap.size = N at *
 have HL1 : Shh (Row ((w.alloc (.cells (pc p).toArray 24)).alloc (.cells (pc fun _ => 0).toArray 24)) (N + 1) 24 (pc fun _ => 0) ∧ Below N w ((w.alloc (.cells (pc p).toArray 24)).alloc (.cells (pc fun _ => 0).toArray 24))) := by
  refine ⟨Row.new_ (by rw [asz, hN]) rfl, ?_⟩
  rw [← hN]
  exact Below.chain (bel1 _ _) (bel1 _ _)
 go_enter Try.func28, Try.ntmps28
 by_cases h1 : n < 1
 ·clear hn
  go_wp2_with (first | refine wl_allocP rfl rfl ?_ | refine wl_at 14 rfl (.agg (pc fun _ => 0).toArray) rfl (build_poly rfl) ?_ | refine wpList_store_any rfl 24 (.tmp 4) (.tmp 14) rfl (N + 1) rfl (pc fun _ => 0) rfl 24 _ HL1.out.1 (info_poly.trans (size_poly _)) rfl (pc_one _) ?_)
  intro w9 hr9 b9 _
  have hb9 := HL1.out.2.trans (b9.under (by omega) (by omega))
  go_wp2
  exact ret_rs7 Try.results28 rfl rfl rfl hr9 Try.underlying24 rfl (info_poly.trans (size_poly _)) ⟨rfl, hb9⟩
 ·have h2 : 12 ≤ n := by omega
  clear hn
  go_wp2_with (first | refine wl_allocP rfl rfl ?_ | refine wl_at 14 rfl (.agg (pc fun _ => 0).toArray) rfl (build_poly rfl) ?_ | refine wpList_store_any rfl 24 (.tmp 4) (.tmp 14) rfl (N + 1) rfl (pc fun _ => 0) rfl 24 _ HL1.out.1 (info_poly.trans (size_poly _)) rfl (pc_one _) ?_)
  intro w9 hr9 b9 _
  have hb9 := HL1.out.2.trans (b9.under (by omega) (by omega))
  go_wp2
  exact ret_rs7 Try.results28 rfl rfl rfl hr9 Try.underlying24 rfl (info_poly.trans (size_poly _)) ⟨rfl, hb9⟩
set_option maxHeartbeats 1000000 in
theorem Decompress_bad (n : Int) (hn : n < 1 ∨ 11 < n) (p : Nat → Nat) (w : World) : Calls Try.prog 30 #[.int .i64 n, polyV p] w (CodeIs w (fun _ => 0) 1) := by
 unfold CodeIs polyV
 generalize hN : w.heap.size = N at *
 have HL1 : Shh (Row ((w.alloc (.cells (pc p).toArray 24)).alloc (.cells (pc fun _ => 0).toArray 24)) (N + 1) 24 (pc fun _ => 0) ∧ Below N w ((w.alloc (.cells (pc p).toArray 24)).alloc (.cells (pc fun _ => 0).toArray 24))) := by
  refine ⟨Row.new_ (by rw [asz, hN]) rfl, ?_⟩
  rw [← hN]
  exact Below.chain (bel1 _ _) (bel1 _ _)
 go_enter Try.func30, Try.ntmps30
 by_cases h1 : n < 1
 ·clear hn
  go_wp2_with (first | refine wl_allocP rfl rfl ?_ | refine wl_at 15 rfl (.agg (pc fun _ => 0).toArray) rfl (build_poly rfl) ?_ | refine wpList_store_any rfl 24 (.tmp 4) (.tmp 15) rfl (N + 1) rfl (pc fun _ => 0) rfl 24 _ HL1.out.1 (info_poly.trans (size_poly _)) rfl (pc_one _) ?_)
  intro w9 hr9 b9 _
  have hb9 := HL1.out.2.trans (b9.under (by omega) (by omega))
  go_wp2
  exact ret_rs7 Try.results30 rfl rfl rfl hr9 Try.underlying24 rfl (info_poly.trans (size_poly _)) ⟨rfl, hb9⟩
 ·have h2 : 12 ≤ n := by omega
  clear hn
  go_wp2_with (first | refine wl_allocP rfl rfl ?_ | refine wl_at 15 rfl (.agg (pc fun _ => 0).toArray) rfl (build_poly rfl) ?_ | refine wpList_store_any rfl 24 (.tmp 4) (.tmp 15) rfl (N + 1) rfl (pc fun _ => 0) rfl 24 _ HL1.out.1 (info_poly.trans (size_poly _)) rfl (pc_one _) ?_)
  intro w9 hr9 b9 _
  have hb9 := HL1.out.2.trans (b9.under (by omega) (by omega))
  go_wp2
  exact ret_rs7 Try.results30 rfl rfl rfl hr9 Try.underlying24 rfl (info_poly.trans (size_poly _)) ⟨rfl, hb9⟩
set_option maxHeartbeats 1000000 in
theorem refCompress_bad (n : Int) (hn : n < 1 ∨ 11 < n) (p : Nat → Nat) (w : World) : Calls Try.prog 29 #[.int .i64 n, polyV p] w (CodeIs w (fun _ => 0) 1) := by
 unfold CodeIs polyV
 generalize hN : w.heap.size = N at *
 have HL1 : Shh (Row ((w.alloc (.cells (pc p).toArray 24)).alloc (.cells (pc fun _ => 0).toArray 24)) (N + 1) 24 (pc fun _ => 0) ∧ Below N w ((w.alloc (.cells (pc p).toArray 24)).alloc (.cells (pc fun _ => 0).toArray 24))) := by
  refine ⟨Row.new_ (by rw [asz, hN]) rfl, ?_⟩
  rw [← hN]
  exact Below.chain (bel1 _ _) (bel1 _ _)
 go_enter Try.func29, Try.ntmps29
 by_cases h1 : n < 1
 ·clear hn
  go_wp2_with (first | refine wl_allocP rfl rfl ?_ | refine wl_at 13 rfl (.agg (pc fun _ => 0).toArray) rfl (build_poly rfl) ?_ | refine wpList_store_any rfl 24 (.tmp 4) (.tmp 13) rfl (N + 1) rfl (pc fun _ => 0) rfl 24 _ HL1.out.1 (info_poly.trans (size_poly _)) rfl (pc_one _) ?_)
  intro w9 hr9 b9 _
  have hb9 := HL1.out.2.trans (b9.under (by omega) (by omega))
  go_wp2
  exact ret_rs7 Try.results29 rfl rfl rfl hr9 Try.underlying24 rfl (info_poly.trans (size_poly _)) ⟨rfl, hb9⟩
 ·have h2 : 11 < n := by omega
  clear hn
  go_wp2_with (first | refine wl_allocP rfl rfl ?_ | refine wl_at 13 rfl (.agg (pc fun _ => 0).toArray) rfl (build_poly rfl) ?_ | refine wpList_store_any rfl 24 (.tmp 4) (.tmp 13) rfl (N + 1) rfl (pc fun _ => 0) rfl 24 _ HL1.out.1 (info_poly.trans (size_poly _)) rfl (pc_one _) ?_)
  intro w9 hr9 b9 _
  have hb9 := HL1.out.2.trans (b9.under (by omega) (by omega))
  go_wp2
  exact ret_rs7 Try.results29 rfl rfl rfl hr9 Try.underlying24 rfl (info_poly.trans (size_poly _)) ⟨rfl, hb9⟩
set_option maxHeartbeats 1000000 in
theorem refDecompress_bad (n : Int) (hn : n < 1 ∨ 11 < n) (p : Nat → Nat) (w : World) : Calls Try.prog 31 #[.int .i64 n, polyV p] w (CodeIs w (fun _ => 0) 1) := by
 unfold CodeIs polyV
 generalize hN : w.heap.size = N at *
 have HL1 : Shh (Row ((w.alloc (.cells (pc p).toArray 24)).alloc (.cells (pc fun _ => 0).toArray 24)) (N + 1) 24 (pc fun _ => 0) ∧ Below N w ((w.alloc (.cells (pc p).toArray 24)).alloc (.cells (pc fun _ => 0).toArray 24))) := by
  refine ⟨Row.new_ (by rw [asz, hN]) rfl, ?_⟩
  rw [← hN]
  exact Below.chain (bel1 _ _) (bel1 _ _)
 go_enter Try.func31, Try.ntmps31
 by_cases h1 : n < 1
 ·clear hn
  go_wp2_with (first | refine wl_allocP rfl rfl ?_ | refine wl_at 13 rfl (.agg (pc fun _ => 0).toArray) rfl (build_poly rfl) ?_ | refine wpList_store_any rfl 24 (.tmp 4) (.tmp 13) rfl (N + 1) rfl (pc fun _ => 0) rfl 24 _ HL1.out.1 (info_poly.trans (size_poly _)) rfl (pc_one _) ?_)
  intro w9 hr9 b9 _
  have hb9 := HL1.out.2.trans (b9.under (by omega) (by omega))
  go_wp2
  exact ret_rs7 Try.results31 rfl rfl rfl hr9 Try.underlying24 rfl (info_poly.trans (size_poly _)) ⟨rfl, hb9⟩
 ·have h2 : 11 < n := by omega
  clear hn
  go_wp2_with (first | refine wl_allocP rfl rfl ?_ | refine wl_at 13 rfl (.agg (pc fun _ => 0).toArray) rfl (build_poly rfl) ?_ | refine wpList_store_any rfl 24 (.tmp 4) (.tmp 13) rfl (N + 1) rfl (pc fun _ => 0) rfl 24 _ HL1.out.1 (info_poly.trans (size_poly _)) rfl (pc_one _) ?_)
  intro w9 hr9 b9 _
  have hb9 := HL1.out.2.trans (b9.under (by omega) (by omega))
  go_wp2
  exact ret_rs7 Try.results31 rfl rfl rfl hr9 Try.underlying24 rfl (info_poly.trans (size_poly _)) ⟨rfl, hb9⟩
end Go.Proofs.Ytfcgdjgfdbcddaa
