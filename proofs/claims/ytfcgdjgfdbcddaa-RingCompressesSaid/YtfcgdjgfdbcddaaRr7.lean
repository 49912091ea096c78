/-
 THE DOCUMENT'S OWN Compress, Decompress.
-/
import Derived.Test.YtfcgdjgfdbcddaaRp4
import Derived.Test.YtfcgdjgfdbcddaaRg6
namespace Go.Proofs.Ytfcgdjgfdbcddaa
open Go.RowKit
set_option maxRecDepth 100000
section
variable {a : Act} {x y : Operand} {op : Oper} {w : World}
theorem rem_ij {i j k : Nat} (h : k = i % j) (hj : 0 < j) (hi : i ≤ 1000000000000) (ho : op.op = .binOp .rem 3 x y 3) (hx : a.eval x = .int .i64 (i : Int)) (hy : a.eval y = .int .i64 (j : Int)) : (execOp a.eval op).run Try.prog w = .ok (.value (.int .i64 (k : Int))) w := by
 have hk : k ≤ i := by rw [h]; exact Nat.mod_le _ _
 have e : (i : Int).tmod (j : Int) = (k : Int) := by rw [Int.tmod_eq_emod_of_nonneg (by omega), h, Int.natCast_emod]
 have hw : IntKind.i64.wrap (k : Int) = (k : Int) := by rw [IntKind.wrap_i64]; omega
 have hz : ¬ (j : Int) = 0 := by omega
 clear h
 generalize (i : Int) = ii at *
 generalize (j : Int) = jj at *
 generalize (k : Int) = kk at *
 unfold execOp
 simp only [ho, hx, hy]
 go_simp
end
theorem results_row_slot7 {P : Program} {fn : Func} {q p : Tmp} {ty : TypeId} (h : fn.results = #[.cell p ty, .tmp q]) (tmps : Array Value) (w : World) (g : Nat) (t : TypeId) (cs : List Value) (d : TypeDesc) (v : Value)
  (hq : tmps.getD q undef = v) (hp : tmps.getD p undef = .pointer (some ⟨g, 0, none⟩)) (hg : Row w g t cs)
  (hu : P.underlying ty = some d) (hd : (match d with | .struct _ | .array _ _ => true | _ => false) = true) (hi : (P.info? ty).map (·.size) = some cs.length) :
  (results fn tmps).run P w = .ok (.tuple #[.agg cs.toArray, v]) w := by
 have hp' : tmps[p]?.getD undef = .pointer (some ⟨g, 0, none⟩) := by simpa using hp
 have hq' : tmps[q]?.getD undef = v := by simpa using hq
 simp [results, h, hp', hq', asAddr, run_loadVar_row w g t ty cs.toArray (0, 0) d hg hu hd (by simpa using hi)]
theorem ret_rs7 {P : Program} {f : Func} {a : Act} {q p : Tmp} {ty : TypeId} {d : TypeDesc} {post : Ending → World → Prop} {w : World} {g : Nat} {T : TypeId} {cs : List Value} {v : Value} (hf : f.results = #[.cell p ty, .tmp q]) (hdf : a.defers = []) (hq : a.tmps.getD q undef = v) (hp : a.tmps.getD p undef = .pointer (some ⟨g, 0, none⟩)) (hr : Row w g T cs)
  (hu : P.underlying ty = some d) (hd : (match d with | .struct _ | .array _ _ => true | _ => false) = true) (hi : (P.info? ty).map (·.size) = some cs.length) (h : post (.returned (.tuple #[.agg cs.toArray, v])) w) : bodyPost P f post .ret a w :=
 bodyPost_ret (v := .tuple #[.agg cs.toArray, v]) (results_row_slot7 hf _ _ g T cs d v hq hp hr hu hd hi) hdf h
/-- the answer is a polynomial and a code -/
def CodeIs (w : World) (p : Nat → Nat) (er : Int) (e : Ending) (w' : World) : Prop := e = .returned (.tuple #[polyV p, .int .i64 er]) ∧ Below w.heap.size w w'
set_option maxHeartbeats 2000000 in
theorem refCompress_any (d : Nat) (hd : 1 ≤ d ∧ d ≤ 11) (p : Nat → Nat) (hp : ∀ i, i < 256 → p i < 65536) (w : World) : Calls Try.prog 29 #[.int .i64 (d : Int), polyV p] w (CodeIs w (cmpP d p) 0) := by
 unfold CodeIs polyV
 generalize hN : w.heap.size = N at *
 have HP := Shh.mk hp
 have i1 : ¬ (d : Int) < 1 := by omega
 have i2 : ¬ (11 : Int) < (d : Int) := by omega
 obtain ⟨P, hPP⟩ : ∃ P, Shh (P = 2 ^ d) := ⟨_, ⟨rfl⟩⟩
 have HPB : Shh (0 < P ∧ P ≤ 2048) := ⟨by rw [hPP.out]; exact Nat.two_pow_pos d, by rw [hPP.out]; exact Nat.le_trans (Nat.pow_le_pow_right (by decide) hd.2) (by decide)⟩
 have HWD : Shh (∀ W, Calls Try.prog 50 #[.int .i64 (d : Int)] W (NumIs W P)) := ⟨fun W => by rw [hPP.out]; exact width_any d (by omega) W⟩
 have HR : Shh (∀ i, i < 256 → cmpP d p i = ((2 * (p i % 3329) * P + 3329) / (2 * 3329)) % P ∧ cmpP d p i < 65536) := ⟨fun i _ => by
  refine ⟨by unfold cmpP cmpN; rw [hPP.out], ?_⟩
  have h := cmpN_lt d (p i % 3329)
  rw [← hPP.out] at h
  have := HPB.out
  unfold cmpP
  omega⟩
 have HNE : Shh (∀ x : Nat, x < 3329 → ∀ W, Calls Try.prog 41 #[.int .i64 (x : Int), .int .i64 (P : Int), .int .i64 3329] W (NumIs W ((2 * x * P + 3329) / (2 * 3329)))) := ⟨fun x hx W => Near_any x P 3329 (by omega) (by have := HPB.out; omega) (by decide) W⟩
 generalize cmpP d p = r at *
 clear hp hd hPP
 unfold NumIs at *
 go_enter Try.func29, Try.ntmps29
 go_wp2_with (refine wl_allocP rfl rfl ?_)
 obtain ⟨W, hW⟩ : ∃ W, W = (w.alloc (.cells (pc p).toArray 24)).alloc (.cells (pc fun _ => 0).toArray 24) := ⟨_, rfl⟩
 have HW : Shh (Row W N 24 (pc p) ∧ Row W (N + 1) 24 (pc fun _ => 0) ∧ Below N w W) := by
  refine ⟨by rw [hW]; exact (Row.new_ hN.symm rfl).alloc _, by rw [hW]; exact Row.new_ (by rw [asz, hN]) rfl, ?_⟩
  rw [hW, ← hN]
  exact Below.chain (bel1 _ _) (bel1 _ _)
 try simp only [asz, hN]
 rw [← hW]
 clear hW
 go_wp2
 go_loopw [6, 14] (fun _ i wr => ∃ k : Nat, k ≤ 256 ∧ i = .int .i64 (k : Int) ∧ Shh (Row wr N 24 (pc (half r p k)) ∧ Row wr (N + 1) 24 (pc fun _ => 0) ∧ Below N w wr)) (fun _ i _ => 256 - (intOf i).toNat)
 case atStart => exact ⟨0, Nat.zero_le _, rfl, ⟨by rw [half_zero]; exact HW.out⟩⟩
 case round =>
  clear HW
  obtain ⟨k, hk, rfl, HI⟩ := hrel
  by_cases hlt : k < 256
  ·have hlt2 : (k : Int) < 256 := by omega
   have HX := Shh.mk (HR.out k hlt)
   have HPK := Shh.mk (HP.out k hlt)
   obtain ⟨V, hV⟩ : ∃ V, V = World.drew wr := ⟨_, rfl⟩
   have HIV : Shh (Row V N 24 (pc (half r p k)) ∧ Row V (N + 1) 24 (pc fun _ => 0) ∧ Below N w V) := by subst hV; exact ⟨HI.out.1.drew, HI.out.2.1.drew, HI.out.2.2.drew⟩
   have c1 : V.cell? ⟨N, k, none⟩ = some (.int .u16 (p k : Int)) := by
    have h1 := HIV.out.1.cell k
    rw [pc_get _ hlt, half_now] at h1
    exact h1
   have HQ : Shh (Row (V.setCell ⟨N, k, none⟩ (.int .u16 (r k : Int))) N 24 (pc (half r p (k + 1))) ∧ Row (V.setCell ⟨N, k, none⟩ (.int .u16 (r k : Int))) (N + 1) 24 (pc fun _ => 0) ∧ Below N w (V.setCell ⟨N, k, none⟩ (.int .u16 (r k : Int)))) := by
    have h := HIV.out.1.set_ k (.int .u16 (r k : Int))
    rw [pc_set, half_next] at h
    exact ⟨⟨h, HIV.out.2.1.other _ _ (by simp), HIV.out.2.2.setCell (p := ⟨N, k, none⟩) (Nat.le_refl _) _⟩⟩
   obtain ⟨A, HA⟩ : ∃ v, Shh (v = p k) := ⟨_, ⟨rfl⟩⟩
   rw [← HA.out] at c1 HX HPK
   obtain ⟨rk, Hrk⟩ : ∃ v, Shh (v = r k) := ⟨_, ⟨rfl⟩⟩
   rw [← Hrk.out] at HQ HX
   obtain ⟨a, Ha⟩ : ∃ v, Shh (v = A % 3329) := ⟨_, ⟨rfl⟩⟩
   have hal : a < 3329 := by rw [Ha.out]; exact Nat.mod_lt _ (by decide)
   rw [← Ha.out] at HX
   have HNA := Shh.mk (HNE.out a hal)
   have hq : (2 * a * P + 3329) / (2 * 3329) ≤ 100000000 := by
    refine Nat.le_trans (Nat.div_le_self _ _) ?_
    have h1 : 2 * a * P ≤ 6658 * 2048 := Nat.mul_le_mul (by omega) HPB.out.2
    omega
   obtain ⟨q, Hq⟩ : ∃ v, Shh (v = (2 * a * P + 3329) / (2 * 3329)) := ⟨_, ⟨rfl⟩⟩
   rw [← Hq.out] at HNA HX hq
   have VL : Shh (a < 65536 ∧ q ≤ 1000000000000 ∧ 0 < P) := ⟨by omega, by omega, HPB.out.1⟩
   clear hal hq
   clear HI HA Hrk
   go_wp2
   refine wp_region_held_drew (S := fun _ => True) (by kernel_rfl) trivial (fun hS => ?_)
   clear hS
   rw [← hV]
   clear hV
   refine share (T := ?T0) (fun hT => ?gg0) ?tt0
   case gg0 =>
    refine hdv0 0 17 (.int .i64 (k : Int)) (by rfl) (trivial) ?_
    refine hdv0 1 18 (.int .i64 (k : Int)) (by rfl) (trivial) ?_
    refine hdv 2 19 (.pointer (some ⟨N, k, none⟩)) (by rfl) (fun w hS => at_poly hlt rfl (by kernel_rfl) (by kernel_rfl)) (trivial) ?_
    refine hdv0 6 23 (.int .i64 (d : Int)) (by rfl) (trivial) ?_
    refine hdv0 9 26 (.int .i64 (d : Int)) (by rfl) (trivial) ?_
    refine held_two 3 7 (by kernel_rfl) ?_ ?_
    ·refine step_value 3 _ _ (some 20) (.int .u16 (A : Int)) V (by rfl) (by kernel_rfl) (load_u16 rfl c1 (by kernel_rfl)) (trivial) ?_
     simp only [Act.put, arr9, hd9, tl9]
     refine hdv 4 21 (.int .u16 (a : Int)) (by rfl) (fun w hS => rem_u16 Ha.out HPK.out rfl (by kernel_rfl)) (trivial) ?_
     refine hdv 5 22 (.int .i64 (a : Int)) (by rfl) (fun w hS => conv_ui16 VL.out.1 rfl (by kernel_rfl)) (trivial) ?_
     refine held_one 7 (by kernel_rfl) ?_
     refine step_call 7 _ _ (some 24) 50 #[.int .i64 (d : Int)] (by rfl) (by kernel_rfl) (by first | kernel_rfl | go_simp) ?_
     refine (HWD.out V).mono ?_
     rintro e Y2 ⟨rfl, hq⟩
     obtain rfl : V = Y2 := hq
     refine ⟨_, rfl, trivial, ?_⟩
     simp only [Act.put, arr9, hd9, tl9]
     refine held_one 8 (by kernel_rfl) ?_
     refine step_call 8 _ _ (some 25) 41 #[.int .i64 (a : Int), .int .i64 (P : Int), .int .i64 3329] (by rfl) (by kernel_rfl) (by first | kernel_rfl | go_simp) ?_
     refine (HNA.out V).mono ?_
     rintro e Y3 ⟨rfl, hq⟩
     obtain rfl : V = Y3 := hq
     refine ⟨_, rfl, trivial, ?_⟩
     simp only [Act.put, arr9, hd9, tl9]
     refine held_one 10 (by kernel_rfl) ?_
     refine step_call 10 _ _ (some 27) 50 #[.int .i64 (d : Int)] (by rfl) (by kernel_rfl) (by first | kernel_rfl | go_simp) ?_
     refine (HWD.out V).mono ?_
     rintro e Y4 ⟨rfl, hq⟩
     obtain rfl : V = Y4 := hq
     refine ⟨_, rfl, trivial, ?_⟩
     simp only [Act.put, arr9, hd9, tl9]
     exact hT.out
    ·refine step_call 7 _ _ (some 24) 50 #[.int .i64 (d : Int)] (by rfl) (by kernel_rfl) (by first | kernel_rfl | go_simp) ?_
     refine (HWD.out V).mono ?_
     rintro e Y1 ⟨rfl, hq⟩
     obtain rfl : V = Y1 := hq
     refine ⟨_, rfl, trivial, ?_⟩
     simp only [Act.put, arr9, hd9, tl9]
     refine held_one 3 (by kernel_rfl) ?_
     refine step_value 3 _ _ (some 20) (.int .u16 (A : Int)) V (by rfl) (by kernel_rfl) (load_u16 rfl c1 (by kernel_rfl)) (trivial) ?_
     simp only [Act.put, arr9, hd9, tl9]
     refine hdv 4 21 (.int .u16 (a : Int)) (by rfl) (fun w hS => rem_u16 Ha.out HPK.out rfl (by kernel_rfl)) (trivial) ?_
     refine hdv 5 22 (.int .i64 (a : Int)) (by rfl) (fun w hS => conv_ui16 VL.out.1 rfl (by kernel_rfl)) (trivial) ?_
     refine held_one 8 (by kernel_rfl) ?_
     refine step_call 8 _ _ (some 25) 41 #[.int .i64 (a : Int), .int .i64 (P : Int), .int .i64 3329] (by rfl) (by kernel_rfl) (by first | kernel_rfl | go_simp) ?_
     refine (HNA.out V).mono ?_
     rintro e Y3 ⟨rfl, hq⟩
     obtain rfl : V = Y3 := hq
     refine ⟨_, rfl, trivial, ?_⟩
     simp only [Act.put, arr9, hd9, tl9]
     refine held_one 10 (by kernel_rfl) ?_
     refine step_call 10 _ _ (some 27) 50 #[.int .i64 (d : Int)] (by rfl) (by kernel_rfl) (by first | kernel_rfl | go_simp) ?_
     refine (HWD.out V).mono ?_
     rintro e Y4 ⟨rfl, hq⟩
     obtain rfl : V = Y4 := hq
     refine ⟨_, rfl, trivial, ?_⟩
     simp only [Act.put, arr9, hd9, tl9]
     exact hT.out
   case tt0 =>
    refine hdv 11 28 (.int .i64 (rk : Int)) (by rfl) (fun w hS => rem_ij HX.out.1 VL.out.2.2 VL.out.2.1 rfl (by kernel_rfl) (by kernel_rfl)) (trivial) ?_
    refine hdv 12 29 (.int .u16 (rk : Int)) (by rfl) (fun w hS => conv_iu16 HX.out.2 rfl (by kernel_rfl)) (trivial) ?_
    refine hdv 13 30 (.pointer (some ⟨N, k, none⟩)) (by rfl) (fun w hS => at_poly hlt rfl (by kernel_rfl) (by kernel_rfl)) (trivial) ?_
    refine held_one 14 (by kernel_rfl) ?_
    refine step_store1 14 _ (by rfl) (by kernel_rfl) (V.setCell ⟨N, k, none⟩ (.int .u16 (rk : Int))) (run_storeP hlt HIV.out.1 rfl (by kernel_rfl) (by kernel_rfl)) ⟨trivial, ?_⟩
    refine wpAnyH_done (by kernel_rfl) ?_ _
    clear c1 HIV
    go_wp2
    go_roundw
    case rel => exact ⟨k + 1, by omega, by go_num, HQ⟩
    case measure => simp [intOf]; omega
  ·have HL : Shh (pc (half r p k) = pc r) := ⟨by rw [show k = 256 by omega]; exact half_all _ _⟩
   rw [HL.out] at HI
   have hlt2 : ¬ (k : Int) < 256 := by omega
   clear HL HP HR
   go_wp2_with (first
    | refine wpList_load_any rfl 24 (.tmp 3) rfl N rfl 24 (pc r) (.array 256 22) HI.out.1 Try.underlying24 rfl (info_poly.trans (size_poly r)) ?_
    | refine wpList_store_any rfl 24 (.tmp 4) (.tmp 32) rfl (N + 1) rfl (pc r) rfl 24 _ HI.out.2.1 (info_poly.trans (size_poly r)) (by rw [pc_length, pc_length]) (pc_one r) ?_)
   intro w9 hr9 b9 _
   have hb9 := HI.out.2.2.trans (b9.under (Nat.le_of_lt HI.out.1.lt) (Nat.le_succ _))
   go_wp2
   exact ret_rs7 Try.results29 rfl rfl rfl hr9 Try.underlying24 rfl (info_poly.trans (size_poly r)) ⟨rfl, hb9⟩
set_option maxHeartbeats 2000000 in
theorem refDecompress_any (d : Nat) (hd : 1 ≤ d ∧ d ≤ 11) (p : Nat → Nat) (hp : ∀ i, i < 256 → p i < 65536) (w : World) : Calls Try.prog 31 #[.int .i64 (d : Int), polyV p] w (CodeIs w (dcmP d p) 0) := by
 unfold CodeIs polyV
 generalize hN : w.heap.size = N at *
 have HP := Shh.mk hp
 have i1 : ¬ (d : Int) < 1 := by omega
 have i2 : ¬ (11 : Int) < (d : Int) := by omega
 obtain ⟨P, hPP⟩ : ∃ P, Shh (P = 2 ^ d) := ⟨_, ⟨rfl⟩⟩
 have HPB : Shh (0 < P ∧ P ≤ 2048) := ⟨by rw [hPP.out]; exact Nat.two_pow_pos d, by rw [hPP.out]; exact Nat.le_trans (Nat.pow_le_pow_right (by decide) hd.2) (by decide)⟩
 have HWD : Shh (∀ W, Calls Try.prog 50 #[.int .i64 (d : Int)] W (NumIs W P)) := ⟨fun W => by rw [hPP.out]; exact width_any d (by omega) W⟩
 have HR : Shh (∀ i, i < 256 → dcmP d p i = (2 * (p i % P) * 3329 + P) / (2 * P) ∧ dcmP d p i < 65536) := ⟨fun i _ => by
  refine ⟨by unfold dcmP dcmN; rw [hPP.out], ?_⟩
  unfold dcmP
  exact dcmN_lt d _ (by omega) (Nat.mod_lt _ (Nat.two_pow_pos d))⟩
 have HNE : Shh (∀ x : Nat, x < P → ∀ W, Calls Try.prog 41 #[.int .i64 (x : Int), .int .i64 3329, .int .i64 (P : Int)] W (NumIs W ((2 * x * 3329 + P) / (2 * P)))) := ⟨fun x hx W => Near_any x 3329 P (by have := HPB.out; omega) (by decide) ⟨HPB.out.1, by have := HPB.out; omega⟩ W⟩
 generalize dcmP d p = r at *
 clear hp hd hPP
 unfold NumIs at *
 go_enter Try.func31, Try.ntmps31
 go_wp2_with (refine wl_allocP rfl rfl ?_)
 obtain ⟨W, hW⟩ : ∃ W, W = (w.alloc (.cells (pc p).toArray 24)).alloc (.cells (pc fun _ => 0).toArray 24) := ⟨_, rfl⟩
 have HW : Shh (Row W N 24 (pc p) ∧ Row W (N + 1) 24 (pc fun _ => 0) ∧ Below N w W) := by
  refine ⟨by rw [hW]; exact (Row.new_ hN.symm rfl).alloc _, by rw [hW]; exact Row.new_ (by rw [asz, hN]) rfl, ?_⟩
  rw [hW, ← hN]
  exact Below.chain (bel1 _ _) (bel1 _ _)
 try simp only [asz, hN]
 rw [← hW]
 clear hW
 go_wp2
 go_loopw [6, 14] (fun _ i wr => ∃ k : Nat, k ≤ 256 ∧ i = .int .i64 (k : Int) ∧ Shh (Row wr N 24 (pc (half r p k)) ∧ Row wr (N + 1) 24 (pc fun _ => 0) ∧ Below N w wr)) (fun _ i _ => 256 - (intOf i).toNat)
 case atStart => exact ⟨0, Nat.zero_le _, rfl, ⟨by rw [half_zero]; exact HW.out⟩⟩
 case round =>
  clear HW
  obtain ⟨k, hk, rfl, HI⟩ := hrel
  by_cases hlt : k < 256
  ·have hlt2 : (k : Int) < 256 := by omega
   have HX := Shh.mk (HR.out k hlt)
   have HPK := Shh.mk (HP.out k hlt)
   obtain ⟨V, hV⟩ : ∃ V, V = World.drew wr := ⟨_, rfl⟩
   have HIV : Shh (Row V N 24 (pc (half r p k)) ∧ Row V (N + 1) 24 (pc fun _ => 0) ∧ Below N w V) := by subst hV; exact ⟨HI.out.1.drew, HI.out.2.1.drew, HI.out.2.2.drew⟩
   have c1 : V.cell? ⟨N, k, none⟩ = some (.int .u16 (p k : Int)) := by
    have h1 := HIV.out.1.cell k
    rw [pc_get _ hlt, half_now] at h1
    exact h1
   have HQ : Shh (Row (V.setCell ⟨N, k, none⟩ (.int .u16 (r k : Int))) N 24 (pc (half r p (k + 1))) ∧ Row (V.setCell ⟨N, k, none⟩ (.int .u16 (r k : Int))) (N + 1) 24 (pc fun _ => 0) ∧ Below N w (V.setCell ⟨N, k, none⟩ (.int .u16 (r k : Int)))) := by
    have h := HIV.out.1.set_ k (.int .u16 (r k : Int))
    rw [pc_set, half_next] at h
    exact ⟨⟨h, HIV.out.2.1.other _ _ (by simp), HIV.out.2.2.setCell (p := ⟨N, k, none⟩) (Nat.le_refl _) _⟩⟩
   obtain ⟨A, HA⟩ : ∃ v, Shh (v = p k) := ⟨_, ⟨rfl⟩⟩
   rw [← HA.out] at c1 HX HPK
   obtain ⟨rk, Hrk⟩ : ∃ v, Shh (v = r k) := ⟨_, ⟨rfl⟩⟩
   rw [← Hrk.out] at HQ HX
   obtain ⟨a, Ha⟩ : ∃ v, Shh (v = A % P) := ⟨_, ⟨rfl⟩⟩
   have hal : a < P := by rw [Ha.out]; exact Nat.mod_lt _ HPB.out.1
   rw [← Ha.out] at HX
   have HNA := Shh.mk (HNE.out a hal)
   rw [← HX.out.1] at HNA
   have VL : Shh (A ≤ 1000000000000 ∧ 0 < P) := ⟨by have := HPK.out; omega, HPB.out.1⟩
   clear hal
   clear HI HA Hrk
   go_wp2
   refine wp_region_held_drew (S := fun _ => True) (by kernel_rfl) trivial (fun hS => ?_)
   clear hS
   rw [← hV]
   clear hV
   refine share (T := ?T0) (fun hT => ?gg0) ?tt0
   case gg0 =>
    refine hdv0 0 17 (.int .i64 (k : Int)) (by rfl) (trivial) ?_
    refine hdv0 1 18 (.int .i64 (k : Int)) (by rfl) (trivial) ?_
    refine hdv 2 19 (.pointer (some ⟨N, k, none⟩)) (by rfl) (fun w hS => at_poly hlt rfl (by kernel_rfl) (by kernel_rfl)) (trivial) ?_
    refine hdv0 5 22 (.int .i64 (d : Int)) (by rfl) (trivial) ?_
    refine hdv0 8 25 (.int .i64 (d : Int)) (by rfl) (trivial) ?_
    refine held_two 3 6 (by kernel_rfl) ?_ ?_
    ·refine step_value 3 _ _ (some 20) (.int .u16 (A : Int)) V (by rfl) (by kernel_rfl) (load_u16 rfl c1 (by kernel_rfl)) (trivial) ?_
     simp only [Act.put, arr9, hd9, tl9]
     refine hdv 4 21 (.int .i64 (A : Int)) (by rfl) (fun w hS => conv_ui16 HPK.out rfl (by kernel_rfl)) (trivial) ?_
     refine held_one 6 (by kernel_rfl) ?_
     refine step_call 6 _ _ (some 23) 50 #[.int .i64 (d : Int)] (by rfl) (by kernel_rfl) (by first | kernel_rfl | go_simp) ?_
     refine (HWD.out V).mono ?_
     rintro e Y2 ⟨rfl, hq⟩
     obtain rfl : V = Y2 := hq
     refine ⟨_, rfl, trivial, ?_⟩
     simp only [Act.put, arr9, hd9, tl9]
     refine hdv 7 24 (.int .i64 (a : Int)) (by rfl) (fun w hS => rem_ij Ha.out VL.out.2 VL.out.1 rfl (by kernel_rfl) (by kernel_rfl)) (trivial) ?_
     refine held_one 9 (by kernel_rfl) ?_
     refine step_call 9 _ _ (some 26) 50 #[.int .i64 (d : Int)] (by rfl) (by kernel_rfl) (by first | kernel_rfl | go_simp) ?_
     refine (HWD.out V).mono ?_
     rintro e Y3 ⟨rfl, hq⟩
     obtain rfl : V = Y3 := hq
     refine ⟨_, rfl, trivial, ?_⟩
     simp only [Act.put, arr9, hd9, tl9]
     refine held_one 10 (by kernel_rfl) ?_
     refine step_call 10 _ _ (some 27) 41 #[.int .i64 (a : Int), .int .i64 3329, .int .i64 (P : Int)] (by rfl) (by kernel_rfl) (by first | kernel_rfl | go_simp) ?_
     refine (HNA.out V).mono ?_
     rintro e Y4 ⟨rfl, hq⟩
     obtain rfl : V = Y4 := hq
     refine ⟨_, rfl, trivial, ?_⟩
     simp only [Act.put, arr9, hd9, tl9]
     exact hT.out
    ·refine step_call 6 _ _ (some 23) 50 #[.int .i64 (d : Int)] (by rfl) (by kernel_rfl) (by first | kernel_rfl | go_simp) ?_
     refine (HWD.out V).mono ?_
     rintro e Y1 ⟨rfl, hq⟩
     obtain rfl : V = Y1 := hq
     refine ⟨_, rfl, trivial, ?_⟩
     simp only [Act.put, arr9, hd9, tl9]
     refine held_two 3 9 (by kernel_rfl) ?_ ?_
     ·refine step_value 3 _ _ (some 20) (.int .u16 (A : Int)) V (by rfl) (by kernel_rfl) (load_u16 rfl c1 (by kernel_rfl)) (trivial) ?_
      simp only [Act.put, arr9, hd9, tl9]
      refine hdv 4 21 (.int .i64 (A : Int)) (by rfl) (fun w hS => conv_ui16 HPK.out rfl (by kernel_rfl)) (trivial) ?_
      refine hdv 7 24 (.int .i64 (a : Int)) (by rfl) (fun w hS => rem_ij Ha.out VL.out.2 VL.out.1 rfl (by kernel_rfl) (by kernel_rfl)) (trivial) ?_
      refine held_one 9 (by kernel_rfl) ?_
      refine step_call 9 _ _ (some 26) 50 #[.int .i64 (d : Int)] (by rfl) (by kernel_rfl) (by first | kernel_rfl | go_simp) ?_
      refine (HWD.out V).mono ?_
      rintro e Y3 ⟨rfl, hq⟩
      obtain rfl : V = Y3 := hq
      refine ⟨_, rfl, trivial, ?_⟩
      simp only [Act.put, arr9, hd9, tl9]
      refine held_one 10 (by kernel_rfl) ?_
      refine step_call 10 _ _ (some 27) 41 #[.int .i64 (a : Int), .int .i64 3329, .int .i64 (P : Int)] (by rfl) (by kernel_rfl) (by first | kernel_rfl | go_simp) ?_
      refine (HNA.out V).mono ?_
      rintro e Y4 ⟨rfl, hq⟩
      obtain rfl : V = Y4 := hq
      refine ⟨_, rfl, trivial, ?_⟩
      simp only [Act.put, arr9, hd9, tl9]
      exact hT.out
     ·refine step_call 9 _ _ (some 26) 50 #[.int .i64 (d : Int)] (by rfl) (by kernel_rfl) (by first | kernel_rfl | go_simp) ?_
      refine (HWD.out V).mono ?_
      rintro e Y2 ⟨rfl, hq⟩
      obtain rfl : V = Y2 := hq
      refine ⟨_, rfl, trivial, ?_⟩
      simp only [Act.put, arr9, hd9, tl9]
      refine held_one 3 (by kernel_rfl) ?_
      refine step_value 3 _ _ (some 20) (.int .u16 (A : Int)) V (by rfl) (by kernel_rfl) (load_u16 rfl c1 (by kernel_rfl)) (trivial) ?_
      simp only [Act.put, arr9, hd9, tl9]
      refine hdv 4 21 (.int .i64 (A : Int)) (by rfl) (fun w hS => conv_ui16 HPK.out rfl (by kernel_rfl)) (trivial) ?_
      refine hdv 7 24 (.int .i64 (a : Int)) (by rfl) (fun w hS => rem_ij Ha.out VL.out.2 VL.out.1 rfl (by kernel_rfl) (by kernel_rfl)) (trivial) ?_
      refine held_one 10 (by kernel_rfl) ?_
      refine step_call 10 _ _ (some 27) 41 #[.int .i64 (a : Int), .int .i64 3329, .int .i64 (P : Int)] (by rfl) (by kernel_rfl) (by first | kernel_rfl | go_simp) ?_
      refine (HNA.out V).mono ?_
      rintro e Y4 ⟨rfl, hq⟩
      obtain rfl : V = Y4 := hq
      refine ⟨_, rfl, trivial, ?_⟩
      simp only [Act.put, arr9, hd9, tl9]
      exact hT.out
   case tt0 =>
    refine hdv 11 28 (.int .u16 (rk : Int)) (by rfl) (fun w hS => conv_iu16 HX.out.2 rfl (by kernel_rfl)) (trivial) ?_
    refine hdv 12 29 (.pointer (some ⟨N, k, none⟩)) (by rfl) (fun w hS => at_poly hlt rfl (by kernel_rfl) (by kernel_rfl)) (trivial) ?_
    refine held_one 13 (by kernel_rfl) ?_
    refine step_store1 13 _ (by rfl) (by kernel_rfl) (V.setCell ⟨N, k, none⟩ (.int .u16 (rk : Int))) (run_storeP hlt HIV.out.1 rfl (by kernel_rfl) (by kernel_rfl)) ⟨trivial, ?_⟩
    refine wpAnyH_done (by kernel_rfl) ?_ _
    clear c1 HIV
    go_wp2
    go_roundw
    case rel => exact ⟨k + 1, by omega, by go_num, HQ⟩
    case measure => simp [intOf]; omega
  ·have HL : Shh (pc (half r p k) = pc r) := ⟨by rw [show k = 256 by omega]; exact half_all _ _⟩
   rw [HL.out] at HI
   have hlt2 : ¬ (k : Int) < 256 := by omega
   clear HL HP HR
   go_wp2_with (first
    | refine wpList_load_any rfl 24 (.tmp 3) rfl N rfl 24 (pc r) (.array 256 22) HI.out.1 Try.underlying24 rfl (info_poly.trans (size_poly r)) ?_
    | refine wpList_store_any rfl 24 (.tmp 4) (.tmp 31) rfl (N + 1) rfl (pc r) rfl 24 _ HI.out.2.1 (info_poly.trans (size_poly r)) (by rw [pc_length, pc_length]) (pc_one r) ?_)
   intro w9 hr9 b9 _
   have hb9 := HI.out.2.2.trans (b9.under (Nat.le_of_lt HI.out.1.lt) (Nat.le_succ _))
   go_wp2
   exact ret_rs7 Try.results31 rfl rfl rfl hr9 Try.underlying24 rfl (info_poly.trans (size_poly r)) ⟨rfl, hb9⟩
end Go.Proofs.Ytfcgdjgfdbcddaa
