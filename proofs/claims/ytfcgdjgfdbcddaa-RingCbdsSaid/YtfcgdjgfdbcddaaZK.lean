import Derived.Test.YtfcgdjgfdbcddaaZD
import Derived.BigQuiet
import Derived.Test.YtfcgdjgfdbcddaaZI
import Derived.Test.YtfcgdjgfdbcddaaZH
import Derived.Test.YtfcgdjgfdbcddaaZF
/-
 THE PROGRAM'S OWN ones.
-/
namespace Go.Proofs.Ytfcgdjgfdbcddaa
open Go.RowKit
set_option maxRecDepth 100000
/-- the ones among the lowest k bits -/
def popN (x : Nat) : Nat → Nat
 | 0 => 0
 | k + 1 => popN x k + if x.testBit k = true then 1 else 0
/-- the answer is a number, and what was in memory stays -/
def NumBel (w : World) (k : IntKind) (n : Nat) (e : Ending) (w' : World) : Prop := e = .returned (.int k (n : Int)) ∧ Below w.heap.size w w'
theorem bel_drewN (w : World) (n : Nat) : Below w.heap.size w (w.drewN n) := ⟨rfl, rfl, rfl, Nat.le_refl _, fun _ _ => rfl⟩
theorem pop_is : ((List.range 256).all fun x => decide (Lib.pop8 (x : Int) = (popN x 8 : Int) ∧ popN x 8 ≤ 8)) = true := by decide +kernel
theorem pop_zero : Lib.pop8 0 = 0 := by decide +kernel
theorem pop_low : ([2, 3] : List Nat).all (fun e => (List.range (2 ^ (2 * e))).all fun x => decide (popN (x % 2 ^ e) 8 = popN x e ∧ popN (x / 2 ^ e) 8 = popN (x / 2 ^ e) e ∧ popN x e ≤ 3 ∧ popN (x / 2 ^ e) e ≤ 3)) = true := by decide +kernel
theorem and255' (x : Nat) (h : x < 256) : bits .and .u16 (x : Int) 255 = (x : Int) := by
 have h1 := and_low x 8 (by omega) (by decide)
 rw [show ((2 ^ 8 - 1 : Nat) : Int) = 255 from rfl, Nat.mod_eq_of_lt (by omega)] at h1
 exact h1
set_option maxHeartbeats 1000000 in
theorem OnesCount_any (x : Nat) (hx : x < 256) (w : World) : Calls Try.prog 59 #[.int .u16 (x : Int)] w (NumBel w .i64 (popN x 8)) := by
 unfold NumBel
 have h0 := List.all_eq_true.1 pop_is x (List.mem_range.2 hx)
 simp only [decide_eq_true_eq] at h0
 have HP := Shh.mk h0
 have ha := and255' x hx
 have hd : (x : Int) / 256 = 0 := by omega
 have hr : (0 : Int) ≤ (x : Int) ∧ (x : Int) ≤ 255 := by omega
 have hz := pop_zero
 go_enter Try.func59, Try.ntmps59
 go_wp2
 go_quiet (fail)
 have HB := Shh.mk (bel_drewN w nq)
 generalize w.drewN nq = z at *
 go_wp2
 go_ret
 exact ⟨rfl, HB.out⟩
theorem ones_any (x : Nat) (hx : x < 256) (w : World) : Calls Try.prog 55 #[.int .u16 (x : Int)] w (NumBel w .u16 (popN x 8)) := by
 unfold NumBel
 have h0 := List.all_eq_true.1 pop_is x (List.mem_range.2 hx)
 simp only [decide_eq_true_eq] at h0
 have HC : Shh (∀ W, Calls Try.prog 59 #[.int .u16 (x : Int)] W (NumBel W .i64 (popN x 8))) := ⟨fun W => OnesCount_any x hx W⟩
 have h1 := h0.2
 clear h0
 generalize popN x 8 = n at *
 have HN : Shh (n < 65536) := ⟨by omega⟩
 go_enter Try.func55, Try.ntmps55
 go_wp2_with (go_at_call 59; refine (HC.out _).mono ?_)
 rintro e w2 ⟨rfl, hb⟩
 have HB := Shh.mk hb
 clear hb
 have hm : (n : Int) % 65536 = n := by omega
 go_wp2_with (refine wl_at 5 rfl (.int .u16 (n : Int)) rfl (conv_iu16 HN.out rfl rfl) ?_)
 go_ret
 exact ⟨rfl, HB.out⟩
end Go.Proofs.Ytfcgdjgfdbcddaa

/-
 THE PROGRAM'S OWN Cbd.
-/
namespace Go.Proofs.Ytfcgdjgfdbcddaa
open Go.RowKit
set_option maxRecDepth 100000
/-- the small coefficient of a number of 2 e bits -/
def cbdX (e x : Nat) : Nat := (popN x e + 3329 - popN (x / 2 ^ e) e) % 3329
def cbdF (e V i : Nat) : Nat := cbdX e (decN (2 * e) V i)
theorem cbdX_lt (e x : Nat) : cbdX e x < 3329 := Nat.mod_lt _ (by decide)
theorem shr_16 {a : Act} {x y : Operand} {op : Oper} {w : World} {n d k : Nat} (h : k = n / 2 ^ d) (hd : d ≤ 15) (hn : n < 65536) (ho : op.op = .binOp .shr 22 x y 3) (hx : a.eval x = .int .u16 (n : Int)) (hy : a.eval y = .int .i64 (d : Int)) : (execOp a.eval op).run Try.prog w = .ok (.value (.int .u16 (k : Int))) w := by
 have h1 : ¬ (d : Int) < 0 := by omega
 have h2 : (d : Int).toNat = d := by omega
 have hk : k ≤ n := by rw [h]; exact Nat.div_le_self _ _
 have he : (n : Int) / 2 ^ d = (k : Int) := by rw [h, Int.natCast_ediv, Int.natCast_pow]; rfl
 have hw : IntKind.u16.wrap (k : Int) = (k : Int) := by rw [IntKind.wrap_u16]; omega
 have hm : (k : Int) % 65536 = (k : Int) := by omega
 have h3 : d < 16 := by omega
 clear h
 unfold execOp
 simp only [ho, hx, hy]
 go_simp
theorem cbd_parts (e x : Nat) (he : e = 2 ∨ e = 3) (hx : x < 2 ^ (2 * e)) : popN (x % 2 ^ e) 8 = popN x e ∧ popN (x / 2 ^ e) 8 = popN (x / 2 ^ e) e ∧ popN x e ≤ 3 ∧ popN (x / 2 ^ e) e ≤ 3 := by
 have h := List.all_eq_true.1 (List.all_eq_true.1 pop_low e (by rcases he with rfl | rfl <;> decide)) x (List.mem_range.2 hx)
 simpa only [decide_eq_true_eq] using h
set_option maxHeartbeats 2000000 in
theorem Cbd_2 (B : Nat) (v : Value) (bs : List UInt8) (hl : bs.length = 128) (w : World) (hs : Sl w B v bs) (hB : B ≤ w.heap.size) : Calls Try.prog 39 #[.int .i64 2, v] w (CodeIs w (cbdF 2 (litN bs)) 0) := by
 unfold CodeIs polyV
 generalize hN : w.heap.size = N at *
 have i3 : (bs.length : Int) ≤ 128 := by omega
 have i4 : (128 : Int) ≤ (bs.length : Int) := by omega
 have HS0 : Shh (Sl (w.alloc (.cells (pc fun _ => 0).toArray 24)) B v bs ∧ Row (w.alloc (.cells (pc fun _ => 0).toArray 24)) N 24 (pc fun _ => 0) ∧ Below N w (w.alloc (.cells (pc fun _ => 0).toArray 24)) ∧ B ≤ (w.alloc (.cells (pc fun _ => 0).toArray 24)).heap.size) := by
  refine ⟨hs.below ((bel1 _ _).mono (by omega)), Row.new_ hN.symm rfl, ?_, by rw [asz]; omega⟩
  rw [← hN]
  exact bel1 _ _
 obtain ⟨q, hq⟩ : ∃ q : Nat → Nat, Shh (q = decN 4 (litN bs)) := ⟨_, ⟨rfl⟩⟩
 have HU : Shh (Calls Try.prog 53 #[.int .i64 4, v] (w.alloc (.cells (pc fun _ => 0).toArray 24)) (PolyIs (w.alloc (.cells (pc fun _ => 0).toArray 24)) q)) := ⟨by rw [hq.out]; exact unpacked_any 4 ⟨by decide, by decide⟩ B v bs (by omega) _ HS0.out.1 HS0.out.2.2.2⟩
 have HX0 : Shh (∀ k, cbdF 2 (litN bs) k = cbdX 2 (q k) ∧ q k < 16) := ⟨fun k => by rw [hq.out]; exact ⟨rfl, decN_lt 4 _ k⟩⟩
 obtain ⟨A, c, rfl, _, _⟩ := hs.form
 generalize cbdF 2 (litN bs) = r at *
 clear hq hs hl
 generalize bs.length = ln at *
 go_enter Try.func39, Try.ntmps39
 go_wp2_with (first | refine wl_allocP rfl rfl ?_ | (go_at_call 53; refine (HU.out).mono ?_))
 rintro e w2 ⟨rfl, b2⟩
 have HI : Shh (Row w2 N 24 (pc fun _ => 0) ∧ Below N w w2) := ⟨HS0.out.2.1.go b2, HS0.out.2.2.1.trans (b2.mono (by have := HS0.out.2.1.lt; omega))⟩
 clear b2 HS0 HU
 go_wp2_with (refine wl_newP 6 q rfl rfl rfl rfl rfl rfl rfl rfl ?_)
 intro G w3 hG r3 b3
 simp only [Act.put, arr9, hd9, tl9]
 have HJ : Shh (Row w3 N 24 (pc fun _ => 0) ∧ Row w3 G 24 (pc (half r q 0)) ∧ Below N w w3 ∧ N < G) := ⟨HI.out.1.go b3, by rw [half_zero]; exact r3, HI.out.2.trans (b3.mono (Nat.le_of_lt HI.out.1.lt)), by rw [hG.out]; exact HI.out.1.lt⟩
 have HJQ := Shh.mk r3
 clear r3 b3 HI hG
 go_wp2_with (refine wpList_load_any rfl 24 (.tmp 6) rfl G rfl 24 (pc q) (.array 256 22) HJQ.out Try.underlying24 rfl (info_poly.trans (size_poly q)) ?_)
 clear HJQ
 go_loopw [28] (fun i wr => ∃ k : Nat, k ≤ 256 ∧ i = .int .i64 (k : Int) ∧ Shh (Row wr N 24 (pc fun _ => 0) ∧ Row wr G 24 (pc (half r q k)) ∧ Below N w wr ∧ N < G)) (fun i _ => 256 - (intOf i).toNat)
 case atStart => exact ⟨0, Nat.zero_le _, rfl, HJ⟩
 case round =>
  clear HJ
  obtain ⟨k, hk, rfl, HI⟩ := hrel
  by_cases hlt : k < 256
  ·have hlt2 : (k : Int) < 256 := by omega
   obtain ⟨h1, h2⟩ := HX0.out k
   have HN2 := Shh.mk (half_next r q k)
   have HG := Shh.mk (pc_get q hlt)
   generalize q k = x at *
   generalize r k = rk at *
   obtain ⟨p1, p2, p3, p4⟩ := cbd_parts 2 x (by decide) h2
   obtain ⟨a, Ha⟩ : ∃ a, Shh (a = x % 2 ^ 2) := ⟨_, ⟨rfl⟩⟩
   obtain ⟨b, Hb⟩ : ∃ b, Shh (b = x / 2 ^ 2) := ⟨_, ⟨rfl⟩⟩
   obtain ⟨pa, Hpa⟩ : ∃ p, Shh (p = popN x 2) := ⟨_, ⟨rfl⟩⟩
   obtain ⟨pb, Hpb⟩ : ∃ p, Shh (p = popN (x / 2 ^ 2) 2) := ⟨_, ⟨rfl⟩⟩
   have hal : a < 256 := by have := Ha.out; omega
   have hbl : b < 256 := by have := Hb.out; omega
   rw [← Hpa.out] at p1 p3
   rw [← Hpb.out] at p2 p4
   unfold cbdX at h1
   rw [← Hpa.out, ← Hpb.out] at h1
   have C1 : Shh (∀ W, Calls Try.prog 49 #[.int .i64 2, .int .u16 (x : Int)] W (U16Is W a)) := ⟨fun W => by rw [Ha.out]; exact low_any 2 x (by decide) (by omega) W⟩
   have C2 : Shh (∀ W, Calls Try.prog 55 #[.int .u16 (a : Int)] W (NumBel W .u16 pa)) := ⟨fun W => by rw [← p1, ← Ha.out]; exact ones_any a hal W⟩
   have C3 : Shh (∀ W, Calls Try.prog 55 #[.int .u16 (b : Int)] W (NumBel W .u16 pb)) := ⟨fun W => by rw [← p2, ← Hb.out]; exact ones_any b hbl W⟩
   have C4 : Shh (∀ W, Calls Try.prog 44 #[.int .u16 (pa : Int), .int .u16 (pb : Int)] W (U16Is W rk)) := ⟨fun W => by rw [h1]; exact difference_any pa pb ⟨by omega, by omega⟩ W⟩
   have HV : Shh (x < 65536 ∧ b = x / 2 ^ 2) := ⟨by omega, Hb.out⟩
   clear h1 h2 p1 p2 p3 p4 hal hbl Ha Hb Hpa Hpb
   go_wp2_with (refine wl_at 31 rfl (.int .u16 (x : Int)) rfl (idx_poly hlt HG.out rfl rfl rfl) ?_)
   refine wp_region_held_drew (S := fun _ => True) (by kernel_rfl) trivial (fun hS => ?_)
   clear hS
   obtain ⟨U, hU⟩ : ∃ V, V = World.drew wr := ⟨_, rfl⟩
   rw [← hU]
   have q0 : Row U N 24 (pc fun _ => 0) := by rw [hU]; exact HI.out.1.drew
   have q1 : Row U G 24 (pc (half r q k)) := by rw [hU]; exact HI.out.2.1.drew
   have bN : Below N w U := by rw [hU]; exact HI.out.2.2.1.drew
   have hNG := HI.out.2.2.2
   clear HI hU
   refine hdv0 0 32 (.int .i64 (k : Int)) (by rfl) (trivial) ?_
   refine hdv0 1 33 (.int .i64 2) (by rfl) (trivial) ?_
   refine hdv0 2 34 (.int .u16 (x : Int)) (by rfl) (trivial) ?_
   refine hdv0 5 37 (.int .u16 (x : Int)) (by rfl) (trivial) ?_
   refine hdv0 6 38 (.int .i64 2) (by rfl) (trivial) ?_
   refine hdv 7 39 (.int .u16 (b : Int)) (by rfl) (fun w hS => shr_16 (n := x) (d := 2) HV.out.2 (by decide) HV.out.1 rfl (by kernel_rfl) (by kernel_rfl)) (trivial) ?_
   refine held_one 3 (by kernel_rfl) ?_
   refine step_call 3 _ _ (some 35) 49 #[.int .i64 2, .int .u16 (x : Int)] (by rfl) (by kernel_rfl) (by first | kernel_rfl | go_simp) ?_
   refine (C1.out U).mono ?_
   rintro e Y1 ⟨rfl, hq⟩
   obtain rfl : U = Y1 := hq
   refine ⟨_, rfl, trivial, ?_⟩
   simp only [Act.put, arr9, hd9, tl9]
   refine held_one 4 (by kernel_rfl) ?_
   refine step_call 4 _ _ (some 36) 55 #[.int .u16 (a : Int)] (by rfl) (by kernel_rfl) (by first | kernel_rfl | go_simp) ?_
   refine (C2.out U).mono ?_
   rintro e Y2 ⟨rfl, b1⟩
   have bx : Below U.heap.size U Y2 := b1
   clear b1
   have b_U := bx
   have m_Y2 : U.heap.size ≤ Y2.heap.size := bx.size
   clear bx
   refine ⟨_, rfl, trivial, ?_⟩
   simp only [Act.put, arr9, hd9, tl9]
   refine held_one 8 (by kernel_rfl) ?_
   refine step_call 8 _ _ (some 40) 55 #[.int .u16 (b : Int)] (by rfl) (by kernel_rfl) (by first | kernel_rfl | go_simp) ?_
   refine (C3.out Y2).mono ?_
   rintro e Y3 ⟨rfl, b1⟩
   have bx : Below Y2.heap.size Y2 Y3 := b1
   clear b1
   replace b_U := Below.chain b_U bx
   have b_Y2 := bx
   have m_Y3 : Y2.heap.size ≤ Y3.heap.size := bx.size
   clear bx
   refine ⟨_, rfl, trivial, ?_⟩
   simp only [Act.put, arr9, hd9, tl9]
   refine held_one 9 (by kernel_rfl) ?_
   refine step_call 9 _ _ (some 41) 44 #[.int .u16 (pa : Int), .int .u16 (pb : Int)] (by rfl) (by kernel_rfl) (by first | kernel_rfl | go_simp) ?_
   refine (C4.out Y3).mono ?_
   rintro e Y4 ⟨rfl, hq⟩
   obtain rfl : Y3 = Y4 := hq
   refine ⟨_, rfl, trivial, ?_⟩
   simp only [Act.put, arr9, hd9, tl9]
   refine hdv 10 42 (.pointer (some ⟨G, k, none⟩)) (by rfl) (fun w hS => at_poly hlt rfl (by kernel_rfl) (by kernel_rfl)) (trivial) ?_
   refine held_one 11 (by kernel_rfl) ?_
   refine step_storeP 11 (v := rk) (by rfl) (by kernel_rfl) hlt (q1.go b_U) (by kernel_rfl) (by kernel_rfl) ?_
   intro Y5 r6 b6 z6
   rw [HN2.out] at r6
   have HB : Shh (Row Y5 N 24 (pc fun _ => 0) ∧ Row Y5 G 24 (pc (half r q (k + 1))) ∧ Below N w Y5 ∧ N < G) := ⟨b6.row (q0.go b_U) ((q0.go b_U)).lt (by omega), r6, (bN.trans (b_U.mono (Nat.le_of_lt q0.lt))).trans (b6.under (Nat.le_of_lt ((q0.go b_U)).lt) (by omega)), hNG⟩
   refine ⟨trivial, ?_⟩
   refine wpAnyH_done (by kernel_rfl) ?_ _
   have HZ := HB
   clear HB b6 r6 m_Y3 b_Y2 m_Y2 b_U bN q0 q1 hNG
   go_wp2
   go_roundw
   case rel => exact ⟨k + 1, by omega, by go_num, HZ⟩
   case measure => simp [intOf]; omega
  ·have HL : Shh (pc (half r q k) = pc r) := ⟨by rw [show k = 256 by omega]; exact half_all _ _⟩
   rw [HL.out] at HI
   have hlt2 : ¬ (k : Int) < 256 := by omega
   clear HL HX0
   go_wp2_with (first
    | refine wpList_load_any rfl 24 (.tmp 6) rfl G rfl 24 (pc r) (.array 256 22) HI.out.2.1 Try.underlying24 rfl (info_poly.trans (size_poly r)) ?_
    | refine wpList_store_any rfl 24 (.tmp 4) (.tmp 44) rfl N rfl (pc r) rfl 24 _ HI.out.1 (info_poly.trans (size_poly r)) (by rw [pc_length, pc_length]) (pc_one r) ?_)
   intro w9 hr9 b9 _
   have hb9 := HI.out.2.2.1.trans (b9.under (Nat.le_of_lt HI.out.1.lt) (Nat.le_refl _))
   go_wp2
   exact ret_rs7 Try.results39 rfl rfl rfl hr9 Try.underlying24 rfl (info_poly.trans (size_poly r)) ⟨rfl, hb9⟩
set_option maxHeartbeats 2000000 in
theorem Cbd_3 (B : Nat) (v : Value) (bs : List UInt8) (hl : bs.length = 192) (w : World) (hs : Sl w B v bs) (hB : B ≤ w.heap.size) : Calls Try.prog 39 #[.int .i64 3, v] w (CodeIs w (cbdF 3 (litN bs)) 0) := by
 unfold CodeIs polyV
 generalize hN : w.heap.size = N at *
 have i3 : (bs.length : Int) ≤ 192 := by omega
 have i4 : (192 : Int) ≤ (bs.length : Int) := by omega
 have HS0 : Shh (Sl (w.alloc (.cells (pc fun _ => 0).toArray 24)) B v bs ∧ Row (w.alloc (.cells (pc fun _ => 0).toArray 24)) N 24 (pc fun _ => 0) ∧ Below N w (w.alloc (.cells (pc fun _ => 0).toArray 24)) ∧ B ≤ (w.alloc (.cells (pc fun _ => 0).toArray 24)).heap.size) := by
  refine ⟨hs.below ((bel1 _ _).mono (by omega)), Row.new_ hN.symm rfl, ?_, by rw [asz]; omega⟩
  rw [← hN]
  exact bel1 _ _
 obtain ⟨q, hq⟩ : ∃ q : Nat → Nat, Shh (q = decN 6 (litN bs)) := ⟨_, ⟨rfl⟩⟩
 have HU : Shh (Calls Try.prog 53 #[.int .i64 6, v] (w.alloc (.cells (pc fun _ => 0).toArray 24)) (PolyIs (w.alloc (.cells (pc fun _ => 0).toArray 24)) q)) := ⟨by rw [hq.out]; exact unpacked_any 6 ⟨by decide, by decide⟩ B v bs (by omega) _ HS0.out.1 HS0.out.2.2.2⟩
 have HX0 : Shh (∀ k, cbdF 3 (litN bs) k = cbdX 3 (q k) ∧ q k < 64) := ⟨fun k => by rw [hq.out]; exact ⟨rfl, decN_lt 6 _ k⟩⟩
 obtain ⟨A, c, rfl, _, _⟩ := hs.form
 generalize cbdF 3 (litN bs) = r at *
 clear hq hs hl
 generalize bs.length = ln at *
 go_enter Try.func39, Try.ntmps39
 go_wp2_with (first | refine wl_allocP rfl rfl ?_ | (go_at_call 53; refine (HU.out).mono ?_))
 rintro e w2 ⟨rfl, b2⟩
 have HI : Shh (Row w2 N 24 (pc fun _ => 0) ∧ Below N w w2) := ⟨HS0.out.2.1.go b2, HS0.out.2.2.1.trans (b2.mono (by have := HS0.out.2.1.lt; omega))⟩
 clear b2 HS0 HU
 go_wp2_with (refine wl_newP 6 q rfl rfl rfl rfl rfl rfl rfl rfl ?_)
 intro G w3 hG r3 b3
 simp only [Act.put, arr9, hd9, tl9]
 have HJ : Shh (Row w3 N 24 (pc fun _ => 0) ∧ Row w3 G 24 (pc (half r q 0)) ∧ Below N w w3 ∧ N < G) := ⟨HI.out.1.go b3, by rw [half_zero]; exact r3, HI.out.2.trans (b3.mono (Nat.le_of_lt HI.out.1.lt)), by rw [hG.out]; exact HI.out.1.lt⟩
 have HJQ := Shh.mk r3
 clear r3 b3 HI hG
 go_wp2_with (refine wpList_load_any rfl 24 (.tmp 6) rfl G rfl 24 (pc q) (.array 256 22) HJQ.out Try.underlying24 rfl (info_poly.trans (size_poly q)) ?_)
 clear HJQ
 go_loopw [28] (fun i wr => ∃ k : Nat, k ≤ 256 ∧ i = .int .i64 (k : Int) ∧ Shh (Row wr N 24 (pc fun _ => 0) ∧ Row wr G 24 (pc (half r q k)) ∧ Below N w wr ∧ N < G)) (fun i _ => 256 - (intOf i).toNat)
 case atStart => exact ⟨0, Nat.zero_le _, rfl, HJ⟩
 case round =>
  clear HJ
  obtain ⟨k, hk, rfl, HI⟩ := hrel
  by_cases hlt : k < 256
  ·have hlt2 : (k : Int) < 256 := by omega
   obtain ⟨h1, h2⟩ := HX0.out k
   have HN2 := Shh.mk (half_next r q k)
   have HG := Shh.mk (pc_get q hlt)
   generalize q k = x at *
   generalize r k = rk at *
   obtain ⟨p1, p2, p3, p4⟩ := cbd_parts 3 x (by decide) h2
   obtain ⟨a, Ha⟩ : ∃ a, Shh (a = x % 2 ^ 3) := ⟨_, ⟨rfl⟩⟩
   obtain ⟨b, Hb⟩ : ∃ b, Shh (b = x / 2 ^ 3) := ⟨_, ⟨rfl⟩⟩
   obtain ⟨pa, Hpa⟩ : ∃ p, Shh (p = popN x 3) := ⟨_, ⟨rfl⟩⟩
   obtain ⟨pb, Hpb⟩ : ∃ p, Shh (p = popN (x / 2 ^ 3) 3) := ⟨_, ⟨rfl⟩⟩
   have hal : a < 256 := by have := Ha.out; omega
   have hbl : b < 256 := by have := Hb.out; omega
   rw [← Hpa.out] at p1 p3
   rw [← Hpb.out] at p2 p4
   unfold cbdX at h1
   rw [← Hpa.out, ← Hpb.out] at h1
   have C1 : Shh (∀ W, Calls Try.prog 49 #[.int .i64 3, .int .u16 (x : Int)] W (U16Is W a)) := ⟨fun W => by rw [Ha.out]; exact low_any 3 x (by decide) (by omega) W⟩
   have C2 : Shh (∀ W, Calls Try.prog 55 #[.int .u16 (a : Int)] W (NumBel W .u16 pa)) := ⟨fun W => by rw [← p1, ← Ha.out]; exact ones_any a hal W⟩
   have C3 : Shh (∀ W, Calls Try.prog 55 #[.int .u16 (b : Int)] W (NumBel W .u16 pb)) := ⟨fun W => by rw [← p2, ← Hb.out]; exact ones_any b hbl W⟩
   have C4 : Shh (∀ W, Calls Try.prog 44 #[.int .u16 (pa : Int), .int .u16 (pb : Int)] W (U16Is W rk)) := ⟨fun W => by rw [h1]; exact difference_any pa pb ⟨by omega, by omega⟩ W⟩
   have HV : Shh (x < 65536 ∧ b = x / 2 ^ 3) := ⟨by omega, Hb.out⟩
   clear h1 h2 p1 p2 p3 p4 hal hbl Ha Hb Hpa Hpb
   go_wp2_with (refine wl_at 31 rfl (.int .u16 (x : Int)) rfl (idx_poly hlt HG.out rfl rfl rfl) ?_)
   refine wp_region_held_drew (S := fun _ => True) (by kernel_rfl) trivial (fun hS => ?_)
   clear hS
   obtain ⟨U, hU⟩ : ∃ V, V = World.drew wr := ⟨_, rfl⟩
   rw [← hU]
   have q0 : Row U N 24 (pc fun _ => 0) := by rw [hU]; exact HI.out.1.drew
   have q1 : Row U G 24 (pc (half r q k)) := by rw [hU]; exact HI.out.2.1.drew
   have bN : Below N w U := by rw [hU]; exact HI.out.2.2.1.drew
   have hNG := HI.out.2.2.2
   clear HI hU
   refine hdv0 0 32 (.int .i64 (k : Int)) (by rfl) (trivial) ?_
   refine hdv0 1 33 (.int .i64 3) (by rfl) (trivial) ?_
   refine hdv0 2 34 (.int .u16 (x : Int)) (by rfl) (trivial) ?_
   refine hdv0 5 37 (.int .u16 (x : Int)) (by rfl) (trivial) ?_
   refine hdv0 6 38 (.int .i64 3) (by rfl) (trivial) ?_
   refine hdv 7 39 (.int .u16 (b : Int)) (by rfl) (fun w hS => shr_16 (n := x) (d := 3) HV.out.2 (by decide) HV.out.1 rfl (by kernel_rfl) (by kernel_rfl)) (trivial) ?_
   refine held_one 3 (by kernel_rfl) ?_
   refine step_call 3 _ _ (some 35) 49 #[.int .i64 3, .int .u16 (x : Int)] (by rfl) (by kernel_rfl) (by first | kernel_rfl | go_simp) ?_
   refine (C1.out U).mono ?_
   rintro e Y1 ⟨rfl, hq⟩
   obtain rfl : U = Y1 := hq
   refine ⟨_, rfl, trivial, ?_⟩
   simp only [Act.put, arr9, hd9, tl9]
   refine held_one 4 (by kernel_rfl) ?_
   refine step_call 4 _ _ (some 36) 55 #[.int .u16 (a : Int)] (by rfl) (by kernel_rfl) (by first | kernel_rfl | go_simp) ?_
   refine (C2.out U).mono ?_
   rintro e Y2 ⟨rfl, b1⟩
   have bx : Below U.heap.size U Y2 := b1
   clear b1
   have b_U := bx
   have m_Y2 : U.heap.size ≤ Y2.heap.size := bx.size
   clear bx
   refine ⟨_, rfl, trivial, ?_⟩
   simp only [Act.put, arr9, hd9, tl9]
   refine held_one 8 (by kernel_rfl) ?_
   refine step_call 8 _ _ (some 40) 55 #[.int .u16 (b : Int)] (by rfl) (by kernel_rfl) (by first | kernel_rfl | go_simp) ?_
   refine (C3.out Y2).mono ?_
   rintro e Y3 ⟨rfl, b1⟩
   have bx : Below Y2.heap.size Y2 Y3 := b1
   clear b1
   replace b_U := Below.chain b_U bx
   have b_Y2 := bx
   have m_Y3 : Y2.heap.size ≤ Y3.heap.size := bx.size
   clear bx
   refine ⟨_, rfl, trivial, ?_⟩
   simp only [Act.put, arr9, hd9, tl9]
   refine held_one 9 (by kernel_rfl) ?_
   refine step_call 9 _ _ (some 41) 44 #[.int .u16 (pa : Int), .int .u16 (pb : Int)] (by rfl) (by kernel_rfl) (by first | kernel_rfl | go_simp) ?_
   refine (C4.out Y3).mono ?_
   rintro e Y4 ⟨rfl, hq⟩
   obtain rfl : Y3 = Y4 := hq
   refine ⟨_, rfl, trivial, ?_⟩
   simp only [Act.put, arr9, hd9, tl9]
   refine hdv 10 42 (.pointer (some ⟨G, k, none⟩)) (by rfl) (fun w hS => at_poly hlt rfl (by kernel_rfl) (by kernel_rfl)) (trivial) ?_
   refine held_one 11 (by kernel_rfl) ?_
   refine step_storeP 11 (v := rk) (by rfl) (by kernel_rfl) hlt (q1.go b_U) (by kernel_rfl) (by kernel_rfl) ?_
   intro Y5 r6 b6 z6
   rw [HN2.out] at r6
   have HB : Shh (Row Y5 N 24 (pc fun _ => 0) ∧ Row Y5 G 24 (pc (half r q (k + 1))) ∧ Below N w Y5 ∧ N < G) := ⟨b6.row (q0.go b_U) ((q0.go b_U)).lt (by omega), r6, (bN.trans (b_U.mono (Nat.le_of_lt q0.lt))).trans (b6.under (Nat.le_of_lt ((q0.go b_U)).lt) (by omega)), hNG⟩
   refine ⟨trivial, ?_⟩
   refine wpAnyH_done (by kernel_rfl) ?_ _
   have HZ := HB
   clear HB b6 r6 m_Y3 b_Y2 m_Y2 b_U bN q0 q1 hNG
   go_wp2
   go_roundw
   case rel => exact ⟨k + 1, by omega, by go_num, HZ⟩
   case measure => simp [intOf]; omega
  ·have HL : Shh (pc (half r q k) = pc r) := ⟨by rw [show k = 256 by omega]; exact half_all _ _⟩
   rw [HL.out] at HI
   have hlt2 : ¬ (k : Int) < 256 := by omega
   clear HL HX0
   go_wp2_with (first
    | refine wpList_load_any rfl 24 (.tmp 6) rfl G rfl 24 (pc r) (.array 256 22) HI.out.2.1 Try.underlying24 rfl (info_poly.trans (size_poly r)) ?_
    | refine wpList_store_any rfl 24 (.tmp 4) (.tmp 44) rfl N rfl (pc r) rfl 24 _ HI.out.1 (info_poly.trans (size_poly r)) (by rw [pc_length, pc_length]) (pc_one r) ?_)
   intro w9 hr9 b9 _
   have hb9 := HI.out.2.2.1.trans (b9.under (Nat.le_of_lt HI.out.1.lt) (Nat.le_refl _))
   go_wp2
   exact ret_rs7 Try.results39 rfl rfl rfl hr9 Try.underlying24 rfl (info_poly.trans (size_poly r)) ⟨rfl, hb9⟩
set_option maxHeartbeats 1000000 in
theorem Cbd_bad (n : Int) (B : Nat) (v : Value) (bs : List UInt8) (hn : ¬ n = 2 ∧ ¬ n = 3 ∨ n = 2 ∧ ¬ (bs.length : Int) = 128 ∨ n = 3 ∧ ¬ (bs.length : Int) = 192) (w : World) (hs : Sl w B v bs) : Calls Try.prog 39 #[.int .i64 n, v] w (CodeIs w (fun _ => 0) 1) := by
 unfold CodeIs polyV
 obtain ⟨A, c, rfl, _, _⟩ := hs.form
 generalize hN : w.heap.size = N at *
 generalize bs.length = ln at *
 clear hs
 have HL1 : Shh (Row (w.alloc (.cells (pc fun _ => 0).toArray 24)) N 24 (pc fun _ => 0) ∧ Below N w (w.alloc (.cells (pc fun _ => 0).toArray 24))) := by
  refine ⟨Row.new_ hN.symm rfl, ?_⟩
  rw [← hN]
  exact bel1 _ _
 go_enter Try.func39, Try.ntmps39
 by_cases h1 : n = 2
 ·subst h1
  have h3 : ¬ (ln : Int) = 128 := by omega
  clear hn
  go_wp2_with (first | refine wl_allocP rfl rfl ?_ | refine wl_at 22 rfl (.agg (pc fun _ => 0).toArray) rfl (build_poly rfl) ?_ | refine wpList_store_any rfl 24 (.tmp 4) (.tmp 22) rfl N rfl (pc fun _ => 0) rfl 24 _ HL1.out.1 (info_poly.trans (size_poly _)) rfl (pc_one _) ?_)
  intro w9 hr9 b9 _
  have hb9 := HL1.out.2.trans (b9.under (by omega) (by omega))
  go_wp2
  exact ret_rs7 Try.results39 rfl rfl rfl hr9 Try.underlying24 rfl (info_poly.trans (size_poly _)) ⟨rfl, hb9⟩
 by_cases h2 : n = 3
 ·subst h2
  have h3 : ¬ (ln : Int) = 192 := by omega
  clear hn
  go_wp2_with (first | refine wl_allocP rfl rfl ?_ | refine wl_at 22 rfl (.agg (pc fun _ => 0).toArray) rfl (build_poly rfl) ?_ | refine wpList_store_any rfl 24 (.tmp 4) (.tmp 22) rfl N rfl (pc fun _ => 0) rfl 24 _ HL1.out.1 (info_poly.trans (size_poly _)) rfl (pc_one _) ?_)
  intro w9 hr9 b9 _
  have hb9 := HL1.out.2.trans (b9.under (by omega) (by omega))
  go_wp2
  exact ret_rs7 Try.results39 rfl rfl rfl hr9 Try.underlying24 rfl (info_poly.trans (size_poly _)) ⟨rfl, hb9⟩
 ·clear hn
  go_wp2_with (first | refine wl_allocP rfl rfl ?_ | refine wl_at 22 rfl (.agg (pc fun _ => 0).toArray) rfl (build_poly rfl) ?_ | refine wpList_store_any rfl 24 (.tmp 4) (.tmp 22) rfl N rfl (pc fun _ => 0) rfl 24 _ HL1.out.1 (info_poly.trans (size_poly _)) rfl (pc_one _) ?_)
  intro w9 hr9 b9 _
  have hb9 := HL1.out.2.trans (b9.under (by omega) (by omega))
  go_wp2
  exact ret_rs7 Try.results39 rfl rfl rfl hr9 Try.underlying24 rfl (info_poly.trans (size_poly _)) ⟨rfl, hb9⟩
end Go.Proofs.Ytfcgdjgfdbcddaa

/-
 THE DOCUMENT'S OWN Cbd.
-/
namespace Go.Proofs.Ytfcgdjgfdbcddaa
open Go.RowKit
set_option maxRecDepth 100000
section
variable {ops : Array Oper} {rest : List Oper} {o1 : Oper} {a : Act} {w : World} {Q : Exit → Act → World → Prop}
/-- a new polynomial of zeros -/
theorem wl_allocN (d : Nat) (hg1 : o1.guard = none) (hd : o1.dst = some d) (h1 : o1.op = .alloc 24)
 (h : ∀ g w2, Shh (g = w.heap.size) → Row w2 g 24 (pc fun _ => 0) → Below w.heap.size w w2 → wpList Try.prog ops Q rest (a.put (some d) (.pointer (some ⟨g, 0, none⟩))) w2) : wpList Try.prog ops Q (o1 :: rest) a w := by
 refine wl_allocP hg1 h1 ?_
 rw [hd]
 exact h _ _ ⟨rfl⟩ (Row.new_ rfl rfl) (bel1 w _)
end
theorem popN_le (x : Nat) : ∀ k, popN x k ≤ k
 | 0 => Nat.le_refl _
 | k + 1 => by
  have h := popN_le x k
  show popN x k + _ ≤ k + 1
  split <;> omega
theorem decN_bit (e V k j : Nat) (hj : j < e) : V.testBit (e * k + j) = (decN e V k).testBit j := by
 unfold decN
 rw [Nat.testBit_mod_two_pow, decide_eq_true hj, Bool.true_and, Nat.testBit_eq_decide_div_mod_eq, Nat.testBit_eq_decide_div_mod_eq, Nat.div_div_eq_div_mul, ← Nat.pow_add]
theorem half_bit (x e j : Nat) : (x / 2 ^ e).testBit j = x.testBit (e + j) := by
 rw [Nat.testBit_eq_decide_div_mod_eq, Nat.testBit_eq_decide_div_mod_eq, Nat.div_div_eq_div_mul, ← Nat.pow_add]
set_option maxHeartbeats 2000000 in
theorem refCbd_2 (B : Nat) (v : Value) (bs : List UInt8) (hl : bs.length = 128) (w : World) (hs : Sl w B v bs) (hB : B ≤ w.heap.size) : Calls Try.prog 40 #[.int .i64 2, v] w (CodeIs w (cbdF 2 (litN bs)) 0) := by
 unfold CodeIs polyV
 generalize hN : w.heap.size = N at *
 have i3 : (bs.length : Int) ≤ 128 := by omega
 have i4 : (128 : Int) ≤ (bs.length : Int) := by omega
 have HS0 : Shh (Sl (w.alloc (.cells (pc fun _ => 0).toArray 24)) B v bs ∧ Row (w.alloc (.cells (pc fun _ => 0).toArray 24)) N 24 (pc fun _ => 0) ∧ Below N w (w.alloc (.cells (pc fun _ => 0).toArray 24)) ∧ B ≤ (w.alloc (.cells (pc fun _ => 0).toArray 24)).heap.size) := by
  refine ⟨hs.below ((bel1 _ _).mono (by omega)), Row.new_ hN.symm rfl, ?_, by rw [asz]; omega⟩
  rw [← hN]
  exact bel1 _ _
 obtain ⟨V, hV⟩ : ∃ V, V = litN bs := ⟨_, rfl⟩
 have HBI : Shh (Calls Try.prog 56 #[v] (w.alloc (.cells (pc fun _ => 0).toArray 24)) (OwnB (w.alloc (.cells (pc fun _ => 0).toArray 24)) (bitN V 1024))) := ⟨by
  rw [hV, show 1024 = 8 * bs.length by omega, ← bitsL_bitN]
  exact refBits_any B v bs _ HS0.out.1 HS0.out.2.2.2 (by omega)⟩
 rw [← hV]
 obtain ⟨xs, hxs⟩ : ∃ xs : Nat → Nat, Shh (xs = decN 4 V) := ⟨_, ⟨rfl⟩⟩
 have HX0 : Shh (∀ k, cbdF 2 V k = cbdX 2 (xs k) ∧ (∀ j, j < 4 → V.testBit (4 * k + j) = (xs k).testBit j)) := ⟨fun k => by rw [hxs.out]; exact ⟨rfl, fun j hj => decN_bit 4 V k j hj⟩⟩
 obtain ⟨A, c, rfl, _, _⟩ := hs.form
 generalize cbdF 2 V = r at *
 clear hxs hs hl hV
 generalize bs.length = ln at *
 go_enter Try.func40, Try.ntmps40
 go_wp2_with (first | refine wl_allocP rfl rfl ?_ | (go_at_call 56; refine (HBI.out).mono ?_))
 rintro e w2 ⟨vb, rfl, ho, hb⟩
 have hsl := Slb.of_own ho
 obtain ⟨A2, c2, rfl, _, _⟩ := hsl.form
 obtain ⟨g, off, rfl, hg, hcc⟩ := hsl.at_ (by rw [bitN_length]; decide)
 have HI : Shh (Row w2 N 24 (pc fun _ => 0) ∧ Below N w w2 ∧ g < w2.heap.size ∧ ∀ t, t < 1024 → w2.cell? ⟨g, off + t, none⟩ = some (.bool (V.testBit t))) := ⟨HS0.out.2.1.go hb, HS0.out.2.2.1.trans (hb.mono (Nat.le_of_lt HS0.out.2.1.lt)), hg, fun t ht => by rw [hcc t (by rw [bitN_length]; exact ht), bitN_get]⟩
 clear ho hb hsl hg hcc HBI HS0
 rw [bitN_length]
 go_wp2_with (refine wl_allocN 7 rfl rfl rfl ?_)
 intro G w3 hG r3 b3
 simp only [Act.put, arr9, hd9, tl9]
 obtain ⟨L, HL⟩ : ∃ L, Shh (L = 1024) := ⟨_, ⟨rfl⟩⟩
 have HJ : Shh (Row w3 N 24 (pc fun _ => 0) ∧ Row w3 G 24 (pc (half r (fun _ => 0) 0)) ∧ Below N w w3 ∧ (N < G ∧ g < G) ∧ ∀ t, t < L → w3.cell? ⟨g, off + t, none⟩ = some (.bool (V.testBit t))) := ⟨HI.out.1.go b3, by rw [half_zero]; exact r3, HI.out.2.1.trans (b3.mono (Nat.le_of_lt HI.out.1.lt)), ⟨by rw [hG.out]; exact HI.out.1.lt, by rw [hG.out]; exact HI.out.2.2.1⟩, fun t ht => (b3.cell (p := ⟨g, off + t, none⟩) HI.out.2.2.1).trans (HI.out.2.2.2 t (by have := HL.out; omega))⟩
 clear r3 b3 HI hG
 go_wp2
 go_loopw [9, 27] (fun _ i wr => ∃ k : Nat, k ≤ 256 ∧ i = .int .i64 (k : Int) ∧ Shh (Row wr N 24 (pc fun _ => 0) ∧ Row wr G 24 (pc (half r (fun _ => 0) k)) ∧ Below N w wr ∧ (N < G ∧ g < G) ∧ ∀ t, t < L → wr.cell? ⟨g, off + t, none⟩ = some (.bool (V.testBit t)))) (fun _ i _ => 256 - (intOf i).toNat)
 case atStart => exact ⟨0, Nat.zero_le _, rfl, HJ⟩
 case round =>
  clear HJ
  obtain ⟨k, hk, rfl, HI⟩ := hrel
  by_cases hlt : k < 256
  ·have hlt2 : (k : Int) < 256 := by omega
   obtain ⟨h1, h2⟩ := HX0.out k
   have HN2 := Shh.mk (half_next r (fun _ => 0) k)
   obtain ⟨x, Hx⟩ : ∃ x, Shh (x = xs k) := ⟨_, ⟨rfl⟩⟩
   rw [← Hx.out] at h1 h2
   generalize r k = rk at *
   obtain ⟨s, Hs⟩ : ∃ s, Shh (s = 4 * k ∧ s ≤ 1000000000000) := ⟨_, ⟨rfl, by omega⟩⟩
   obtain ⟨u, Hu⟩ : ∃ u, Shh (u = s + 2 ∧ u ≤ 1000000000000) := ⟨_, ⟨rfl, by have := Hs.out; omega⟩⟩
   have HBT : Shh (∀ j, j < 2 → V.testBit (s + j) = x.testBit j ∧ V.testBit (u + j) = (x / 2 ^ 2).testBit j) := ⟨fun j hj => by
    refine ⟨by rw [Hs.out.1]; exact h2 j (by omega), ?_⟩
    rw [half_bit, Hu.out.1, Hs.out.1, Nat.add_assoc]
    exact h2 (2 + j) (by omega)⟩
   have HR := Shh.mk h1
   clear h1 h2 Hx
   go_wp2
   go_loopw [9, 31] (fun n c wq => ∃ j m : Nat, j ≤ 2 ∧ c = .int .i64 (j : Int) ∧ n = .int .i64 (m : Int) ∧ Shh (m + popN (x / 2 ^ 2) j = 3329 + popN x j ∧ wq = wr)) (fun _ c _ => 2 - (intOf c).toNat)
   case atStart => exact ⟨0, 3329, Nat.zero_le _, rfl, rfl, ⟨⟨rfl, rfl⟩⟩⟩
   case round =>
    obtain ⟨j, m, hj, rfl, rfl, HM⟩ := hrel
    have hwr := HM.out.2
    subst hwr
    by_cases hjt : j < 2
    ·have hjt2 : (j : Int) < 2 := by omega
     obtain ⟨t1, Ht1⟩ : ∃ t, Shh (t = s + j ∧ t ≤ 1000000000000) := ⟨_, ⟨rfl, by have := Hs.out; omega⟩⟩
     obtain ⟨t2, Ht2⟩ : ∃ t, Shh (t = u + j ∧ t ≤ 1000000000000) := ⟨_, ⟨rfl, by have := Hs.out; have := Hu.out; omega⟩⟩
     have hs1 : (t1 : Int) < 1024 := by have := Hs.out; have := Ht1.out; omega
     have hs2 : (t2 : Int) < 1024 := by have := Hs.out; have := Hu.out; have := Ht2.out; omega
     have c1 := HI.out.2.2.2.2 t1 (by have := HL.out; omega)
     have c2 := HI.out.2.2.2.2 t2 (by have := HL.out; omega)
     obtain ⟨b1, b2⟩ := HBT.out j hjt
     rw [← Ht1.out.1] at b1
     rw [← Ht2.out.1] at b2
     rw [b1] at c1
     rw [b2] at c2
     have p1 : popN x (j + 1) = popN x j + if x.testBit j = true then 1 else 0 := rfl
     have p2 : popN (x / 2 ^ 2) (j + 1) = popN (x / 2 ^ 2) j + if (x / 2 ^ 2).testBit j = true then 1 else 0 := rfl
     have l1 := popN_le x (j + 1)
     have l2 := popN_le (x / 2 ^ 2) (j + 1)
     have m0 := HM.out.1
     clear b1 b2 HM
     obtain ⟨y1, Hy1⟩ : ∃ y, Shh (y = popN x (j + 1)) := ⟨_, ⟨rfl⟩⟩
     obtain ⟨y2, Hy2⟩ : ∃ y, Shh (y = popN (x / 2 ^ 2) (j + 1)) := ⟨_, ⟨rfl⟩⟩
     rw [← Hy1.out] at p1 l1
     rw [← Hy2.out] at p2 l2
     generalize popN x j = z1 at *
     generalize popN (x / 2 ^ 2) j = z2 at *
     generalize x.testBit j = bA at *
     generalize (x / 2 ^ 2).testBit j = bB at *
     cases bA
     ·cases bB
      ·have HE : Shh (m + y2 = 3329 + y1) := ⟨by simp at p1 p2; omega⟩
       clear p1 p2 l1 l2 m0
       go_wp2_with (first | refine wl_at 38 rfl (.int .i64 (s : Int)) rfl (mul_iin (i := 4) (j := k) Hs.out.1 Hs.out.2 rfl rfl rfl) ?_ | refine wl_at 40 rfl (.int .i64 (t1 : Int)) rfl (add_ii (i := s) (j := j) Ht1.out rfl rfl rfl) ?_ | refine wl_at 49 rfl (.int .i64 (s : Int)) rfl (mul_iin (i := 4) (j := k) Hs.out.1 Hs.out.2 rfl rfl rfl) ?_ | refine wl_at 51 rfl (.int .i64 (u : Int)) rfl (add_ii (i := s) (j := 2) Hu.out rfl rfl rfl) ?_ | refine wl_at 53 rfl (.int .i64 (t2 : Int)) rfl (add_ii (i := u) (j := j) Ht2.out rfl rfl rfl) ?_)
       go_roundw
       case rel => exact ⟨j + 1, m, by omega, by go_num, rfl, ⟨⟨by rw [← Hy1.out, ← Hy2.out]; exact HE.out, trivial⟩⟩⟩
       case measure => simp [intOf]; omega
      ·obtain ⟨m2, Hm2⟩ : ∃ v, Shh (m = v + 1 ∧ m ≤ 1000000000000) := ⟨m - 1, ⟨by have h3 : z2 + 1 = y2 := (by rw [p2]; rfl); omega, by omega⟩⟩
       have HE : Shh (m2 + y2 = 3329 + y1) := ⟨by simp at p1 p2; have := Hm2.out; omega⟩
       clear p1 p2 l1 l2 m0
       go_wp2_with (first | refine wl_at 38 rfl (.int .i64 (s : Int)) rfl (mul_iin (i := 4) (j := k) Hs.out.1 Hs.out.2 rfl rfl rfl) ?_ | refine wl_at 40 rfl (.int .i64 (t1 : Int)) rfl (add_ii (i := s) (j := j) Ht1.out rfl rfl rfl) ?_ | refine wl_at 49 rfl (.int .i64 (s : Int)) rfl (mul_iin (i := 4) (j := k) Hs.out.1 Hs.out.2 rfl rfl rfl) ?_ | refine wl_at 51 rfl (.int .i64 (u : Int)) rfl (add_ii (i := s) (j := 2) Hu.out rfl rfl rfl) ?_ | refine wl_at 53 rfl (.int .i64 (t2 : Int)) rfl (add_ii (i := u) (j := j) Ht2.out rfl rfl rfl) ?_ | refine wl_at 57 rfl (.int .i64 (m2 : Int)) rfl (sub_ii (i := m) (j := 1) Hm2.out rfl rfl rfl) ?_)
       go_roundw
       case rel => exact ⟨j + 1, m2, by omega, by go_num, rfl, ⟨⟨by rw [← Hy1.out, ← Hy2.out]; exact HE.out, trivial⟩⟩⟩
       case measure => simp [intOf]; omega
     ·cases bB
      ·obtain ⟨m1, Hm1⟩ : ∃ v, Shh (v = m + 1 ∧ v ≤ 1000000000000) := ⟨_, ⟨rfl, by have h3 : z1 ≤ y1 := (by rw [p1]; exact Nat.le_add_right _ _); omega⟩⟩
       have HE : Shh (m1 + y2 = 3329 + y1) := ⟨by simp at p1 p2; have := Hm1.out; omega⟩
       clear p1 p2 l1 l2 m0
       go_wp2_with (first | refine wl_at 38 rfl (.int .i64 (s : Int)) rfl (mul_iin (i := 4) (j := k) Hs.out.1 Hs.out.2 rfl rfl rfl) ?_ | refine wl_at 40 rfl (.int .i64 (t1 : Int)) rfl (add_ii (i := s) (j := j) Ht1.out rfl rfl rfl) ?_ | refine wl_at 44 rfl (.int .i64 (m1 : Int)) rfl (add_ii (i := m) (j := 1) Hm1.out rfl rfl rfl) ?_ | refine wl_at 49 rfl (.int .i64 (s : Int)) rfl (mul_iin (i := 4) (j := k) Hs.out.1 Hs.out.2 rfl rfl rfl) ?_ | refine wl_at 51 rfl (.int .i64 (u : Int)) rfl (add_ii (i := s) (j := 2) Hu.out rfl rfl rfl) ?_ | refine wl_at 53 rfl (.int .i64 (t2 : Int)) rfl (add_ii (i := u) (j := j) Ht2.out rfl rfl rfl) ?_)
       go_roundw
       case rel => exact ⟨j + 1, m1, by omega, by go_num, rfl, ⟨⟨by rw [← Hy1.out, ← Hy2.out]; exact HE.out, trivial⟩⟩⟩
       case measure => simp [intOf]; omega
      ·obtain ⟨m1, Hm1⟩ : ∃ v, Shh (v = m + 1 ∧ v ≤ 1000000000000) := ⟨_, ⟨rfl, by have h3 : z1 ≤ y1 := (by rw [p1]; exact Nat.le_add_right _ _); omega⟩⟩
       obtain ⟨m2, Hm2⟩ : ∃ v, Shh (m1 = v + 1 ∧ m1 ≤ 1000000000000) := ⟨m1 - 1, ⟨by have := Hm1.out; have h3 : z2 + 1 = y2 := (by rw [p2]; rfl); omega, by have := Hm1.out; omega⟩⟩
       have HE : Shh (m2 + y2 = 3329 + y1) := ⟨by simp at p1 p2; have := Hm1.out; have := Hm2.out; omega⟩
       clear p1 p2 l1 l2 m0
       go_wp2_with (first | refine wl_at 38 rfl (.int .i64 (s : Int)) rfl (mul_iin (i := 4) (j := k) Hs.out.1 Hs.out.2 rfl rfl rfl) ?_ | refine wl_at 40 rfl (.int .i64 (t1 : Int)) rfl (add_ii (i := s) (j := j) Ht1.out rfl rfl rfl) ?_ | refine wl_at 44 rfl (.int .i64 (m1 : Int)) rfl (add_ii (i := m) (j := 1) Hm1.out rfl rfl rfl) ?_ | refine wl_at 49 rfl (.int .i64 (s : Int)) rfl (mul_iin (i := 4) (j := k) Hs.out.1 Hs.out.2 rfl rfl rfl) ?_ | refine wl_at 51 rfl (.int .i64 (u : Int)) rfl (add_ii (i := s) (j := 2) Hu.out rfl rfl rfl) ?_ | refine wl_at 53 rfl (.int .i64 (t2 : Int)) rfl (add_ii (i := u) (j := j) Ht2.out rfl rfl rfl) ?_ | refine wl_at 57 rfl (.int .i64 (m2 : Int)) rfl (sub_ii (i := m1) (j := 1) Hm2.out rfl rfl rfl) ?_)
       go_roundw
       case rel => exact ⟨j + 1, m2, by omega, by go_num, rfl, ⟨⟨by rw [← Hy1.out, ← Hy2.out]; exact HE.out, trivial⟩⟩⟩
       case measure => simp [intOf]; omega
    ·have hjt2 : ¬ (j : Int) < 2 := by omega
     obtain rfl : j = 2 := by omega
     have l1 := popN_le x 2
     have l2 := popN_le (x / 2 ^ 2) 2
     have HE : Shh (rk = m % 3329 ∧ m ≤ 1000000000000 ∧ rk < 65536) := ⟨by
      have h1 := HR.out
      have h2 := HM.out.1
      unfold cbdX at h1
      exact ⟨by rw [h1]; congr 1; omega, by omega, by omega⟩⟩
     clear HM HR l1 l2 HBT
     go_wp2_with (first | refine wl_at 61 rfl (.int .i64 (rk : Int)) rfl (rem_iq (n := m) HE.out.1 HE.out.2.1 rfl rfl) ?_ | refine wl_at 62 rfl (.int .u16 (rk : Int)) rfl (conv_iu16 HE.out.2.2 rfl rfl) ?_ | refine wl_at 63 rfl (.pointer (some ⟨G, k, none⟩)) rfl (at_poly hlt rfl rfl rfl) ?_ | refine wl_storeP rfl hlt rfl rfl rfl HI.out.2.1 ?_)
     intro w4 r4 b4 z4
     rw [HN2.out] at r4
     have HO : Shh (Row w4 N 24 (pc fun _ => 0) ∧ Row w4 G 24 (pc (half r (fun _ => 0) (k + 1))) ∧ Below N w w4 ∧ (N < G ∧ g < G) ∧ ∀ t, t < L → w4.cell? ⟨g, off + t, none⟩ = some (.bool (V.testBit t))) := ⟨b4.row HI.out.1 HI.out.1.lt (by have := HI.out.2.2.2.1.1; omega), r4, HI.out.2.2.1.trans (b4.under (Nat.le_of_lt HI.out.1.lt) (Nat.le_of_lt HI.out.2.2.2.1.1)), HI.out.2.2.2.1, fun t ht => (b4.cell (p := ⟨g, off + t, none⟩) (Nat.lt_trans HI.out.2.2.2.1.2 HI.out.2.1.lt) (by show g ≠ G; have := HI.out.2.2.2.1.2; omega)).trans (HI.out.2.2.2.2 t ht)⟩
     clear r4 b4 z4 HI
     go_wp2
     go_roundw
     case rel => exact ⟨k + 1, by omega, by go_num, HO⟩
     case measure => simp [intOf]; omega
  ·have HLL : Shh (pc (half r (fun _ => 0) k) = pc r) := ⟨by rw [show k = 256 by omega]; exact half_all _ _⟩
   rw [HLL.out] at HI
   have hlt2 : ¬ (k : Int) < 256 := by omega
   clear HLL HX0
   go_wp2_with (first
    | refine wpList_load_any rfl 24 (.tmp 7) rfl G rfl 24 (pc r) (.array 256 22) HI.out.2.1 Try.underlying24 rfl (info_poly.trans (size_poly r)) ?_
    | refine wpList_store_any rfl 24 (.tmp 4) (.tmp 65) rfl N rfl (pc r) rfl 24 _ HI.out.1 (info_poly.trans (size_poly r)) (by rw [pc_length, pc_length]) (pc_one r) ?_)
   intro w9 hr9 b9 _
   have hb9 := HI.out.2.2.1.trans (b9.under (Nat.le_of_lt HI.out.1.lt) (Nat.le_refl _))
   go_wp2
   exact ret_rs7 Try.results40 rfl rfl rfl hr9 Try.underlying24 rfl (info_poly.trans (size_poly r)) ⟨rfl, hb9⟩
set_option maxHeartbeats 2000000 in
theorem refCbd_3 (B : Nat) (v : Value) (bs : List UInt8) (hl : bs.length = 192) (w : World) (hs : Sl w B v bs) (hB : B ≤ w.heap.size) : Calls Try.prog 40 #[.int .i64 3, v] w (CodeIs w (cbdF 3 (litN bs)) 0) := by
 unfold CodeIs polyV
 generalize hN : w.heap.size = N at *
 have i3 : (bs.length : Int) ≤ 192 := by omega
 have i4 : (192 : Int) ≤ (bs.length : Int) := by omega
 have HS0 : Shh (Sl (w.alloc (.cells (pc fun _ => 0).toArray 24)) B v bs ∧ Row (w.alloc (.cells (pc fun _ => 0).toArray 24)) N 24 (pc fun _ => 0) ∧ Below N w (w.alloc (.cells (pc fun _ => 0).toArray 24)) ∧ B ≤ (w.alloc (.cells (pc fun _ => 0).toArray 24)).heap.size) := by
  refine ⟨hs.below ((bel1 _ _).mono (by omega)), Row.new_ hN.symm rfl, ?_, by rw [asz]; omega⟩
  rw [← hN]
  exact bel1 _ _
 obtain ⟨V, hV⟩ : ∃ V, V = litN bs := ⟨_, rfl⟩
 have HBI : Shh (Calls Try.prog 56 #[v] (w.alloc (.cells (pc fun _ => 0).toArray 24)) (OwnB (w.alloc (.cells (pc fun _ => 0).toArray 24)) (bitN V 1536))) := ⟨by
  rw [hV, show 1536 = 8 * bs.length by omega, ← bitsL_bitN]
  exact refBits_any B v bs _ HS0.out.1 HS0.out.2.2.2 (by omega)⟩
 rw [← hV]
 obtain ⟨xs, hxs⟩ : ∃ xs : Nat → Nat, Shh (xs = decN 6 V) := ⟨_, ⟨rfl⟩⟩
 have HX0 : Shh (∀ k, cbdF 3 V k = cbdX 3 (xs k) ∧ (∀ j, j < 6 → V.testBit (6 * k + j) = (xs k).testBit j)) := ⟨fun k => by rw [hxs.out]; exact ⟨rfl, fun j hj => decN_bit 6 V k j hj⟩⟩
 obtain ⟨A, c, rfl, _, _⟩ := hs.form
 generalize cbdF 3 V = r at *
 clear hxs hs hl hV
 generalize bs.length = ln at *
 go_enter Try.func40, Try.ntmps40
 go_wp2_with (first | refine wl_allocP rfl rfl ?_ | (go_at_call 56; refine (HBI.out).mono ?_))
 rintro e w2 ⟨vb, rfl, ho, hb⟩
 have hsl := Slb.of_own ho
 obtain ⟨A2, c2, rfl, _, _⟩ := hsl.form
 obtain ⟨g, off, rfl, hg, hcc⟩ := hsl.at_ (by rw [bitN_length]; decide)
 have HI : Shh (Row w2 N 24 (pc fun _ => 0) ∧ Below N w w2 ∧ g < w2.heap.size ∧ ∀ t, t < 1536 → w2.cell? ⟨g, off + t, none⟩ = some (.bool (V.testBit t))) := ⟨HS0.out.2.1.go hb, HS0.out.2.2.1.trans (hb.mono (Nat.le_of_lt HS0.out.2.1.lt)), hg, fun t ht => by rw [hcc t (by rw [bitN_length]; exact ht), bitN_get]⟩
 clear ho hb hsl hg hcc HBI HS0
 rw [bitN_length]
 go_wp2_with (refine wl_allocN 7 rfl rfl rfl ?_)
 intro G w3 hG r3 b3
 simp only [Act.put, arr9, hd9, tl9]
 obtain ⟨L, HL⟩ : ∃ L, Shh (L = 1536) := ⟨_, ⟨rfl⟩⟩
 have HJ : Shh (Row w3 N 24 (pc fun _ => 0) ∧ Row w3 G 24 (pc (half r (fun _ => 0) 0)) ∧ Below N w w3 ∧ (N < G ∧ g < G) ∧ ∀ t, t < L → w3.cell? ⟨g, off + t, none⟩ = some (.bool (V.testBit t))) := ⟨HI.out.1.go b3, by rw [half_zero]; exact r3, HI.out.2.1.trans (b3.mono (Nat.le_of_lt HI.out.1.lt)), ⟨by rw [hG.out]; exact HI.out.1.lt, by rw [hG.out]; exact HI.out.2.2.1⟩, fun t ht => (b3.cell (p := ⟨g, off + t, none⟩) HI.out.2.2.1).trans (HI.out.2.2.2 t (by have := HL.out; omega))⟩
 clear r3 b3 HI hG
 go_wp2
 go_loopw [9, 27] (fun _ i wr => ∃ k : Nat, k ≤ 256 ∧ i = .int .i64 (k : Int) ∧ Shh (Row wr N 24 (pc fun _ => 0) ∧ Row wr G 24 (pc (half r (fun _ => 0) k)) ∧ Below N w wr ∧ (N < G ∧ g < G) ∧ ∀ t, t < L → wr.cell? ⟨g, off + t, none⟩ = some (.bool (V.testBit t)))) (fun _ i _ => 256 - (intOf i).toNat)
 case atStart => exact ⟨0, Nat.zero_le _, rfl, HJ⟩
 case round =>
  clear HJ
  obtain ⟨k, hk, rfl, HI⟩ := hrel
  by_cases hlt : k < 256
  ·have hlt2 : (k : Int) < 256 := by omega
   obtain ⟨h1, h2⟩ := HX0.out k
   have HN2 := Shh.mk (half_next r (fun _ => 0) k)
   obtain ⟨x, Hx⟩ : ∃ x, Shh (x = xs k) := ⟨_, ⟨rfl⟩⟩
   rw [← Hx.out] at h1 h2
   generalize r k = rk at *
   obtain ⟨s, Hs⟩ : ∃ s, Shh (s = 6 * k ∧ s ≤ 1000000000000) := ⟨_, ⟨rfl, by omega⟩⟩
   obtain ⟨u, Hu⟩ : ∃ u, Shh (u = s + 3 ∧ u ≤ 1000000000000) := ⟨_, ⟨rfl, by have := Hs.out; omega⟩⟩
   have HBT : Shh (∀ j, j < 3 → V.testBit (s + j) = x.testBit j ∧ V.testBit (u + j) = (x / 2 ^ 3).testBit j) := ⟨fun j hj => by
    refine ⟨by rw [Hs.out.1]; exact h2 j (by omega), ?_⟩
    rw [half_bit, Hu.out.1, Hs.out.1, Nat.add_assoc]
    exact h2 (3 + j) (by omega)⟩
   have HR := Shh.mk h1
   clear h1 h2 Hx
   go_wp2
   go_loopw [9, 31] (fun n c wq => ∃ j m : Nat, j ≤ 3 ∧ c = .int .i64 (j : Int) ∧ n = .int .i64 (m : Int) ∧ Shh (m + popN (x / 2 ^ 3) j = 3329 + popN x j ∧ wq = wr)) (fun _ c _ => 3 - (intOf c).toNat)
   case atStart => exact ⟨0, 3329, Nat.zero_le _, rfl, rfl, ⟨⟨rfl, rfl⟩⟩⟩
   case round =>
    obtain ⟨j, m, hj, rfl, rfl, HM⟩ := hrel
    have hwr := HM.out.2
    subst hwr
    by_cases hjt : j < 3
    ·have hjt2 : (j : Int) < 3 := by omega
     obtain ⟨t1, Ht1⟩ : ∃ t, Shh (t = s + j ∧ t ≤ 1000000000000) := ⟨_, ⟨rfl, by have := Hs.out; omega⟩⟩
     obtain ⟨t2, Ht2⟩ : ∃ t, Shh (t = u + j ∧ t ≤ 1000000000000) := ⟨_, ⟨rfl, by have := Hs.out; have := Hu.out; omega⟩⟩
     have hs1 : (t1 : Int) < 1536 := by have := Hs.out; have := Ht1.out; omega
     have hs2 : (t2 : Int) < 1536 := by have := Hs.out; have := Hu.out; have := Ht2.out; omega
     have c1 := HI.out.2.2.2.2 t1 (by have := HL.out; omega)
     have c2 := HI.out.2.2.2.2 t2 (by have := HL.out; omega)
     obtain ⟨b1, b2⟩ := HBT.out j hjt
     rw [← Ht1.out.1] at b1
     rw [← Ht2.out.1] at b2
     rw [b1] at c1
     rw [b2] at c2
     have p1 : popN x (j + 1) = popN x j + if x.testBit j = true then 1 else 0 := rfl
     have p2 : popN (x / 2 ^ 3) (j + 1) = popN (x / 2 ^ 3) j + if (x / 2 ^ 3).testBit j = true then 1 else 0 := rfl
     have l1 := popN_le x (j + 1)
     have l2 := popN_le (x / 2 ^ 3) (j + 1)
     have m0 := HM.out.1
     clear b1 b2 HM
     obtain ⟨y1, Hy1⟩ : ∃ y, Shh (y = popN x (j + 1)) := ⟨_, ⟨rfl⟩⟩
     obtain ⟨y2, Hy2⟩ : ∃ y, Shh (y = popN (x / 2 ^ 3) (j + 1)) := ⟨_, ⟨rfl⟩⟩
     rw [← Hy1.out] at p1 l1
     rw [← Hy2.out] at p2 l2
     generalize popN x j = z1 at *
     generalize popN (x / 2 ^ 3) j = z2 at *
     generalize x.testBit j = bA at *
     generalize (x / 2 ^ 3).testBit j = bB at *
     cases bA
     ·cases bB
      ·have HE : Shh (m + y2 = 3329 + y1) := ⟨by simp at p1 p2; omega⟩
       clear p1 p2 l1 l2 m0
       go_wp2_with (first | refine wl_at 38 rfl (.int .i64 (s : Int)) rfl (mul_iin (i := 6) (j := k) Hs.out.1 Hs.out.2 rfl rfl rfl) ?_ | refine wl_at 40 rfl (.int .i64 (t1 : Int)) rfl (add_ii (i := s) (j := j) Ht1.out rfl rfl rfl) ?_ | refine wl_at 49 rfl (.int .i64 (s : Int)) rfl (mul_iin (i := 6) (j := k) Hs.out.1 Hs.out.2 rfl rfl rfl) ?_ | refine wl_at 51 rfl (.int .i64 (u : Int)) rfl (add_ii (i := s) (j := 3) Hu.out rfl rfl rfl) ?_ | refine wl_at 53 rfl (.int .i64 (t2 : Int)) rfl (add_ii (i := u) (j := j) Ht2.out rfl rfl rfl) ?_)
       go_roundw
       case rel => exact ⟨j + 1, m, by omega, by go_num, rfl, ⟨⟨by rw [← Hy1.out, ← Hy2.out]; exact HE.out, trivial⟩⟩⟩
       case measure => simp [intOf]; omega
      ·obtain ⟨m2, Hm2⟩ : ∃ v, Shh (m = v + 1 ∧ m ≤ 1000000000000) := ⟨m - 1, ⟨by have h3 : z2 + 1 = y2 := (by rw [p2]; rfl); omega, by omega⟩⟩
       have HE : Shh (m2 + y2 = 3329 + y1) := ⟨by simp at p1 p2; have := Hm2.out; omega⟩
       clear p1 p2 l1 l2 m0
       go_wp2_with (first | refine wl_at 38 rfl (.int .i64 (s : Int)) rfl (mul_iin (i := 6) (j := k) Hs.out.1 Hs.out.2 rfl rfl rfl) ?_ | refine wl_at 40 rfl (.int .i64 (t1 : Int)) rfl (add_ii (i := s) (j := j) Ht1.out rfl rfl rfl) ?_ | refine wl_at 49 rfl (.int .i64 (s : Int)) rfl (mul_iin (i := 6) (j := k) Hs.out.1 Hs.out.2 rfl rfl rfl) ?_ | refine wl_at 51 rfl (.int .i64 (u : Int)) rfl (add_ii (i := s) (j := 3) Hu.out rfl rfl rfl) ?_ | refine wl_at 53 rfl (.int .i64 (t2 : Int)) rfl (add_ii (i := u) (j := j) Ht2.out rfl rfl rfl) ?_ | refine wl_at 57 rfl (.int .i64 (m2 : Int)) rfl (sub_ii (i := m) (j := 1) Hm2.out rfl rfl rfl) ?_)
       go_roundw
       case rel => exact ⟨j + 1, m2, by omega, by go_num, rfl, ⟨⟨by rw [← Hy1.out, ← Hy2.out]; exact HE.out, trivial⟩⟩⟩
       case measure => simp [intOf]; omega
     ·cases bB
      ·obtain ⟨m1, Hm1⟩ : ∃ v, Shh (v = m + 1 ∧ v ≤ 1000000000000) := ⟨_, ⟨rfl, by have h3 : z1 ≤ y1 := (by rw [p1]; exact Nat.le_add_right _ _); omega⟩⟩
       have HE : Shh (m1 + y2 = 3329 + y1) := ⟨by simp at p1 p2; have := Hm1.out; omega⟩
       clear p1 p2 l1 l2 m0
       go_wp2_with (first | refine wl_at 38 rfl (.int .i64 (s : Int)) rfl (mul_iin (i := 6) (j := k) Hs.out.1 Hs.out.2 rfl rfl rfl) ?_ | refine wl_at 40 rfl (.int .i64 (t1 : Int)) rfl (add_ii (i := s) (j := j) Ht1.out rfl rfl rfl) ?_ | refine wl_at 44 rfl (.int .i64 (m1 : Int)) rfl (add_ii (i := m) (j := 1) Hm1.out rfl rfl rfl) ?_ | refine wl_at 49 rfl (.int .i64 (s : Int)) rfl (mul_iin (i := 6) (j := k) Hs.out.1 Hs.out.2 rfl rfl rfl) ?_ | refine wl_at 51 rfl (.int .i64 (u : Int)) rfl (add_ii (i := s) (j := 3) Hu.out rfl rfl rfl) ?_ | refine wl_at 53 rfl (.int .i64 (t2 : Int)) rfl (add_ii (i := u) (j := j) Ht2.out rfl rfl rfl) ?_)
       go_roundw
       case rel => exact ⟨j + 1, m1, by omega, by go_num, rfl, ⟨⟨by rw [← Hy1.out, ← Hy2.out]; exact HE.out, trivial⟩⟩⟩
       case measure => simp [intOf]; omega
      ·obtain ⟨m1, Hm1⟩ : ∃ v, Shh (v = m + 1 ∧ v ≤ 1000000000000) := ⟨_, ⟨rfl, by have h3 : z1 ≤ y1 := (by rw [p1]; exact Nat.le_add_right _ _); omega⟩⟩
       obtain ⟨m2, Hm2⟩ : ∃ v, Shh (m1 = v + 1 ∧ m1 ≤ 1000000000000) := ⟨m1 - 1, ⟨by have := Hm1.out; have h3 : z2 + 1 = y2 := (by rw [p2]; rfl); omega, by have := Hm1.out; omega⟩⟩
       have HE : Shh (m2 + y2 = 3329 + y1) := ⟨by simp at p1 p2; have := Hm1.out; have := Hm2.out; omega⟩
       clear p1 p2 l1 l2 m0
       go_wp2_with (first | refine wl_at 38 rfl (.int .i64 (s : Int)) rfl (mul_iin (i := 6) (j := k) Hs.out.1 Hs.out.2 rfl rfl rfl) ?_ | refine wl_at 40 rfl (.int .i64 (t1 : Int)) rfl (add_ii (i := s) (j := j) Ht1.out rfl rfl rfl) ?_ | refine wl_at 44 rfl (.int .i64 (m1 : Int)) rfl (add_ii (i := m) (j := 1) Hm1.out rfl rfl rfl) ?_ | refine wl_at 49 rfl (.int .i64 (s : Int)) rfl (mul_iin (i := 6) (j := k) Hs.out.1 Hs.out.2 rfl rfl rfl) ?_ | refine wl_at 51 rfl (.int .i64 (u : Int)) rfl (add_ii (i := s) (j := 3) Hu.out rfl rfl rfl) ?_ | refine wl_at 53 rfl (.int .i64 (t2 : Int)) rfl (add_ii (i := u) (j := j) Ht2.out rfl rfl rfl) ?_ | refine wl_at 57 rfl (.int .i64 (m2 : Int)) rfl (sub_ii (i := m1) (j := 1) Hm2.out rfl rfl rfl) ?_)
       go_roundw
       case rel => exact ⟨j + 1, m2, by omega, by go_num, rfl, ⟨⟨by rw [← Hy1.out, ← Hy2.out]; exact HE.out, trivial⟩⟩⟩
       case measure => simp [intOf]; omega
    ·have hjt2 : ¬ (j : Int) < 3 := by omega
     obtain rfl : j = 3 := by omega
     have l1 := popN_le x 3
     have l2 := popN_le (x / 2 ^ 3) 3
     have HE : Shh (rk = m % 3329 ∧ m ≤ 1000000000000 ∧ rk < 65536) := ⟨by
      have h1 := HR.out
      have h2 := HM.out.1
      unfold cbdX at h1
      exact ⟨by rw [h1]; congr 1; omega, by omega, by omega⟩⟩
     clear HM HR l1 l2 HBT
     go_wp2_with (first | refine wl_at 61 rfl (.int .i64 (rk : Int)) rfl (rem_iq (n := m) HE.out.1 HE.out.2.1 rfl rfl) ?_ | refine wl_at 62 rfl (.int .u16 (rk : Int)) rfl (conv_iu16 HE.out.2.2 rfl rfl) ?_ | refine wl_at 63 rfl (.pointer (some ⟨G, k, none⟩)) rfl (at_poly hlt rfl rfl rfl) ?_ | refine wl_storeP rfl hlt rfl rfl rfl HI.out.2.1 ?_)
     intro w4 r4 b4 z4
     rw [HN2.out] at r4
     have HO : Shh (Row w4 N 24 (pc fun _ => 0) ∧ Row w4 G 24 (pc (half r (fun _ => 0) (k + 1))) ∧ Below N w w4 ∧ (N < G ∧ g < G) ∧ ∀ t, t < L → w4.cell? ⟨g, off + t, none⟩ = some (.bool (V.testBit t))) := ⟨b4.row HI.out.1 HI.out.1.lt (by have := HI.out.2.2.2.1.1; omega), r4, HI.out.2.2.1.trans (b4.under (Nat.le_of_lt HI.out.1.lt) (Nat.le_of_lt HI.out.2.2.2.1.1)), HI.out.2.2.2.1, fun t ht => (b4.cell (p := ⟨g, off + t, none⟩) (Nat.lt_trans HI.out.2.2.2.1.2 HI.out.2.1.lt) (by show g ≠ G; have := HI.out.2.2.2.1.2; omega)).trans (HI.out.2.2.2.2 t ht)⟩
     clear r4 b4 z4 HI
     go_wp2
     go_roundw
     case rel => exact ⟨k + 1, by omega, by go_num, HO⟩
     case measure => simp [intOf]; omega
  ·have HLL : Shh (pc (half r (fun _ => 0) k) = pc r) := ⟨by rw [show k = 256 by omega]; exact half_all _ _⟩
   rw [HLL.out] at HI
   have hlt2 : ¬ (k : Int) < 256 := by omega
   clear HLL HX0
   go_wp2_with (first
    | refine wpList_load_any rfl 24 (.tmp 7) rfl G rfl 24 (pc r) (.array 256 22) HI.out.2.1 Try.underlying24 rfl (info_poly.trans (size_poly r)) ?_
    | refine wpList_store_any rfl 24 (.tmp 4) (.tmp 65) rfl N rfl (pc r) rfl 24 _ HI.out.1 (info_poly.trans (size_poly r)) (by rw [pc_length, pc_length]) (pc_one r) ?_)
   intro w9 hr9 b9 _
   have hb9 := HI.out.2.2.1.trans (b9.under (Nat.le_of_lt HI.out.1.lt) (Nat.le_refl _))
   go_wp2
   exact ret_rs7 Try.results40 rfl rfl rfl hr9 Try.underlying24 rfl (info_poly.trans (size_poly r)) ⟨rfl, hb9⟩
set_option maxHeartbeats 1000000 in
theorem refCbd_bad (n : Int) (B : Nat) (v : Value) (bs : List UInt8) (hn : ¬ n = 2 ∧ ¬ n = 3 ∨ n = 2 ∧ ¬ (bs.length : Int) = 128 ∨ n = 3 ∧ ¬ (bs.length : Int) = 192) (w : World) (hs : Sl w B v bs) : Calls Try.prog 40 #[.int .i64 n, v] w (CodeIs w (fun _ => 0) 1) := by
 unfold CodeIs polyV
 obtain ⟨A, c, rfl, _, _⟩ := hs.form
 generalize hN : w.heap.size = N at *
 generalize bs.length = ln at *
 clear hs
 have HL1 : Shh (Row (w.alloc (.cells (pc fun _ => 0).toArray 24)) N 24 (pc fun _ => 0) ∧ Below N w (w.alloc (.cells (pc fun _ => 0).toArray 24))) := by
  refine ⟨Row.new_ hN.symm rfl, ?_⟩
  rw [← hN]
  exact bel1 _ _
 go_enter Try.func40, Try.ntmps40
 by_cases h1 : n = 2
 ·subst h1
  have h3 : ¬ (ln : Int) = 128 := by omega
  clear hn
  go_wp2_with (first | refine wl_allocP rfl rfl ?_ | refine wl_at 24 rfl (.agg (pc fun _ => 0).toArray) rfl (build_poly rfl) ?_ | refine wpList_store_any rfl 24 (.tmp 4) (.tmp 24) rfl N rfl (pc fun _ => 0) rfl 24 _ HL1.out.1 (info_poly.trans (size_poly _)) rfl (pc_one _) ?_)
  intro w9 hr9 b9 _
  have hb9 := HL1.out.2.trans (b9.under (by omega) (by omega))
  go_wp2
  exact ret_rs7 Try.results40 rfl rfl rfl hr9 Try.underlying24 rfl (info_poly.trans (size_poly _)) ⟨rfl, hb9⟩
 by_cases h2 : n = 3
 ·subst h2
  have h3 : ¬ (ln : Int) = 192 := by omega
  clear hn
  go_wp2_with (first | refine wl_allocP rfl rfl ?_ | refine wl_at 24 rfl (.agg (pc fun _ => 0).toArray) rfl (build_poly rfl) ?_ | refine wpList_store_any rfl 24 (.tmp 4) (.tmp 24) rfl N rfl (pc fun _ => 0) rfl 24 _ HL1.out.1 (info_poly.trans (size_poly _)) rfl (pc_one _) ?_)
  intro w9 hr9 b9 _
  have hb9 := HL1.out.2.trans (b9.under (by omega) (by omega))
  go_wp2
  exact ret_rs7 Try.results40 rfl rfl rfl hr9 Try.underlying24 rfl (info_poly.trans (size_poly _)) ⟨rfl, hb9⟩
 ·clear hn
  go_wp2_with (first | refine wl_allocP rfl rfl ?_ | refine wl_at 24 rfl (.agg (pc fun _ => 0).toArray) rfl (build_poly rfl) ?_ | refine wpList_store_any rfl 24 (.tmp 4) (.tmp 24) rfl N rfl (pc fun _ => 0) rfl 24 _ HL1.out.1 (info_poly.trans (size_poly _)) rfl (pc_one _) ?_)
  intro w9 hr9 b9 _
  have hb9 := HL1.out.2.trans (b9.under (by omega) (by omega))
  go_wp2
  exact ret_rs7 Try.results40 rfl rfl rfl hr9 Try.underlying24 rfl (info_poly.trans (size_poly _)) ⟨rfl, hb9⟩
end Go.Proofs.Ytfcgdjgfdbcddaa

/-
 THE LAW RingCbds.
-/
namespace Go.Proofs.Ytfcgdjgfdbcddaa
open Go.RowKit
set_option maxRecDepth 100000
set_option maxHeartbeats 2000000 in
theorem ringCbds_of (n er2 : Int) (z : Nat → Nat) (hz : ∀ i, i < 256 → z i < 65536) (v : Value) (bs : List UInt8) (w : World) (hs : Sl w w.heap.size v bs)
 (h3 : ∀ W, Sl W W.heap.size v bs → Calls Try.prog 39 #[.int .i64 n, v] W (CodeIs W z er2)) (h4 : ∀ W, Sl W W.heap.size v bs → Calls Try.prog 40 #[.int .i64 n, v] W (CodeIs W z er2)) : Calls Try.prog 8 #[.int .i64 n, v] w (TrueIs w) := by
 unfold TrueIs
 have HLV : Shh (∀ W, Calls Try.prog 13 #[] W (TrueIs W)) := ⟨live13⟩
 have C2 := Shh.mk (h3 w hs)
 have C3 := Shh.mk h4
 have HE : Shh (∀ W, (Op.equalIn 10000 24 (.agg (pc z).toArray) (.agg (pc z).toArray)).run Try.prog W = .ok true W) := ⟨fun W => eq_poly _ hz W⟩
 have HS := Shh.mk hs
 clear h3 h4 hz hs
 go_enter Try.func8, Try.ntmps8
 go_wp2_with (go_at_call 39; refine (C2.out).mono ?_)
 rintro e w4 ⟨rfl, hb⟩
 have HI : Shh (Sl w4 w4.heap.size v bs ∧ Below w.heap.size w w4) := ⟨HS.out.go hb, hb⟩
 clear hb C2 HS
 go_wp2_with (refine wl_newP 5 z rfl rfl rfl rfl rfl rfl rfl rfl ?_)
 intro G1 w5 hG r5 hb
 simp only [Act.put, arr9, hd9, tl9]
 have HJ : Shh (Sl w5 w5.heap.size v bs ∧ Below w.heap.size w w5 ∧ Row w5 G1 24 (pc z)) := ⟨HI.out.1.go hb, HI.out.2.trans (hb.mono HI.out.2.size), r5⟩
 clear hb r5 HI hG
 go_wp2_with (go_at_call 40; refine (C3.out _ HJ.out.1).mono ?_)
 rintro e w6 ⟨rfl, hb⟩
 have HI : Shh (Below w.heap.size w w6 ∧ Row w6 G1 24 (pc z)) := ⟨HJ.out.2.1.trans (hb.mono HJ.out.2.1.size), HJ.out.2.2.go hb⟩
 clear hb HJ C3
 go_wp2_with (refine wl_newP 7 z rfl rfl rfl rfl rfl rfl rfl rfl ?_)
 intro G2 w7 hG r5 hb
 simp only [Act.put, arr9, hd9, tl9]
 have HJ : Shh (Below w.heap.size w w7 ∧ Row w7 G1 24 (pc z) ∧ Row w7 G2 24 (pc z)) := ⟨HI.out.1.trans (hb.mono HI.out.1.size), HI.out.2.go hb, r5⟩
 clear hb r5 HI hG
 go_wp2_with (go_at_call 13; refine (HLV.out _).mono ?_)
 rintro e w8 ⟨rfl, hb⟩
 have HI : Shh (Below w.heap.size w w8 ∧ Row w8 G1 24 (pc z) ∧ Row w8 G2 24 (pc z)) := ⟨HJ.out.1.trans (hb.mono HJ.out.1.size), HJ.out.2.1.go hb, HJ.out.2.2.go hb⟩
 clear hb HJ HLV
 go_wp2_with (first | refine wl_loadW 24 (.tmp 5) rfl G1 rfl 24 (pc z) _ rfl HI.out.2.1 Try.underlying24 rfl (info_poly.trans (size_poly z)) ?_ | refine wl_loadW 24 (.tmp 7) rfl G2 rfl 24 (pc z) _ rfl HI.out.2.2 Try.underlying24 rfl (info_poly.trans (size_poly z)) ?_ | refine wl_eqlW 24 24 (.tmp 23) (.tmp 24) rfl (pc z).toArray (pc z).toArray rfl rfl rfl (by kernel_rfl) true (HE.out _) ?_)
 go_ret
 exact ⟨rfl, HI.out.1⟩
theorem ringCbds_law (n : Int) (hn : -9223372036854775808 ≤ n ∧ n ≤ 9223372036854775807) (v : Value) (bs : List UInt8) (w : World) (hs : Sl w w.heap.size v bs) : Calls Try.prog 8 #[.int .i64 n, v] w (TrueIs w) := by
 have hc : ∀ e V i, cbdF e V i < 65536 := fun e V i => Nat.lt_trans (cbdX_lt e _) (by decide)
 by_cases h2 : n = 2 ∧ bs.length = 128
 ·obtain ⟨rfl, hl⟩ := h2
  exact ringCbds_of 2 0 (cbdF 2 (litN bs)) (fun i _ => hc 2 _ i) v bs w hs (fun W h => Cbd_2 W.heap.size v bs hl W h (Nat.le_refl _)) (fun W h => refCbd_2 W.heap.size v bs hl W h (Nat.le_refl _))
 by_cases h3 : n = 3 ∧ bs.length = 192
 ·obtain ⟨rfl, hl⟩ := h3
  exact ringCbds_of 3 0 (cbdF 3 (litN bs)) (fun i _ => hc 3 _ i) v bs w hs (fun W h => Cbd_3 W.heap.size v bs hl W h (Nat.le_refl _)) (fun W h => refCbd_3 W.heap.size v bs hl W h (Nat.le_refl _))
 ·have hb : ¬ n = 2 ∧ ¬ n = 3 ∨ n = 2 ∧ ¬ (bs.length : Int) = 128 ∨ n = 3 ∧ ¬ (bs.length : Int) = 192 := by omega
  exact ringCbds_of n 1 (fun _ => 0) (fun _ _ => by decide) v bs w hs (fun W h => Cbd_bad n W.heap.size v bs hb W h) (fun W h => refCbd_bad n W.heap.size v bs hb W h)
end Go.Proofs.Ytfcgdjgfdbcddaa
