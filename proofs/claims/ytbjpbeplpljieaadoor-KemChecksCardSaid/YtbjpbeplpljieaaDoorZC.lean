import Derived.Test.YtbjpbeplpljieaaDoorZB
/-
 THE PROGRAM'S OWN packed: bytes out of coefficients of d bits.
-/
namespace Go.Proofs.YtbjpbeplpljieaaDoor
open Go.RowKit
set_option maxRecDepth 100000
section
variable {a : Act} {x y : Operand} {op : Oper} {w : World}
theorem conv_32b {n k : Nat} (h : k = n % 256) (ho : op.op = .convert 110 5 x) (hx : a.eval x = .int .u32 (n : Int)) : (execOp a.eval op).run Tryd.prog w = .ok (.value (.int .u8 (k : Int))) w := by
 have hw : IntKind.u8.wrap (n : Int) = (k : Int) := by rw [IntKind.wrap_u8]; omega
 have hm : (n : Int) % 256 = (k : Int) := by omega
 clear h
 unfold execOp
 simp only [ho, hx]
 go_simp
theorem shr_32c {n k : Nat} (h : k = n / 256) (hn : n < 4294967296) (ho : op.op = .binOp .shr 110 x (.const (.int .u64 8)) 41) (hx : a.eval x = .int .u32 (n : Int)) : (execOp a.eval op).run Tryd.prog w = .ok (.value (.int .u32 (k : Int))) w := by
 have hc : a.eval (.const (.int .u64 8)) = .int .u64 8 := rfl
 have he : (n : Int) / 256 = (k : Int) := by omega
 have hw : IntKind.u32.wrap (k : Int) = (k : Int) := by rw [IntKind.wrap_u32]; omega
 have hm : (k : Int) % 4294967296 = (k : Int) := by omega
 clear h
 unfold execOp
 simp only [ho, hx, hc]
 go_simp
/-- what lies below 2 to the c, and a multiple of it: their 'or' is their sum -/
theorem or_32 {n m k c : Nat} (h : k = n + m * 2 ^ c) (hn : n < 2 ^ c) (hk : k < 4294967296) (ho : op.op = .binOp .or 110 x y 110) (hx : a.eval x = .int .u32 (n : Int)) (hy : a.eval y = .int .u32 ((m * 2 ^ c : Nat) : Int)) : (execOp a.eval op).run Tryd.prog w = .ok (.value (.int .u32 (k : Int))) w := by
 have h1 : n ||| m * 2 ^ c = k := by
  rw [Nat.or_comm, ← Nat.shiftLeft_eq, ← Nat.shiftLeft_add_eq_or_of_lt hn, Nat.shiftLeft_eq, h, Nat.add_comm]
 have h2 := (bits_nat .u32 32 (by decide) wraps_u32 n (m * 2 ^ c) (by omega) (by omega)).2
 rw [h1] at h2
 generalize m * 2 ^ c = q at *
 clear h
 unfold execOp
 simp only [ho, hx, hy]
 go_simp
end
set_option maxHeartbeats 2000000 in
theorem packed_any (d : Nat) (hd : 1 ≤ d ∧ d ≤ 12) (p : Nat → Nat) (hp : ∀ i, i < 256 → p i < 65536) (w : World) : Calls Tryd.prog 86 #[.int .i64 (d : Int), polyV p] w (OwnIs w (litB (sumN (fun i => p i % 2 ^ d) (2 ^ d) 256) (32 * d))) := by
 obtain ⟨i0, hi, hz0, hz1, hz2⟩ := info_parts info_u8
 unfold OwnIs polyV
 generalize hN : w.heap.size = N at *
 have hmk := make0_run (32 * d) (by omega)
 obtain ⟨L, hL⟩ : ∃ L, Shh (L = 32 * d) := ⟨_, ⟨rfl⟩⟩
 have HL2 : Shh (L ≤ 1000) := ⟨by have := hL.out; omega⟩
 have HL3 : Shh (L ≤ 1000000000000) := ⟨by have := hL.out; omega⟩
 rw [← hL.out] at hmk ⊢
 obtain ⟨f, hf⟩ : ∃ f : Nat → Nat, Shh (f = fun i => p i % 2 ^ d) := ⟨_, ⟨rfl⟩⟩
 have HFL : Shh (∀ i, f i < 2 ^ d) := ⟨fun i => by rw [hf.out]; exact Nat.mod_lt _ (Nat.two_pow_pos d)⟩
 have HLO : Shh (∀ i, i < 256 → ∀ W, Calls Tryd.prog 90 #[.int .i64 (d : Int), .int .u16 (p i : Int)] W (U16Is W (f i))) := ⟨fun i hi2 W => by rw [hf.out]; exact low_any d (p i) (by omega) (hp i hi2) W⟩
 obtain ⟨A, hA⟩ : ∃ A : Nat → Nat, Shh (A = sumN f (2 ^ d)) := ⟨_, ⟨rfl⟩⟩
 rw [show sumN (fun i => p i % 2 ^ d) (2 ^ d) 256 = A 256 by rw [hA.out, hf.out]]
 have HP : Shh (∀ k m c, c + 8 * m = d * k → A (k + 1) / 256 ^ m = A k / 256 ^ m + f k * 2 ^ c ∧ litB (A (k + 1)) m = litB (A k) m) := ⟨fun k m c h => by rw [hA.out]; exact pack_in d k m c h⟩
 have HPL : Shh (∀ k m c, c + 8 * m = d * k → A k / 256 ^ m < 2 ^ c) := ⟨fun k m c h => by rw [hA.out]; exact pack_lt d k m c HFL.out h⟩
 have HA0 : Shh (A 0 / 256 ^ 0 = 0 ∧ litB (A 0) 0 = []) := ⟨by rw [hA.out]; exact ⟨Nat.zero_div _, rfl⟩⟩
 have HD := Shh.mk hd
 clear hA hf hp hd
 obtain ⟨W1, hW1⟩ : ∃ W1, W1 = w.alloc (.cells (pc p).toArray 62) := ⟨_, rfl⟩
 have HW1 : Shh (Row W1 N 62 (pc p) ∧ Below N w W1) := by
  refine ⟨by rw [hW1]; exact Row.new_ hN.symm rfl, ?_⟩
  rw [hW1, ← hN]
  exact bel1 _ _
 obtain ⟨W2, hW2⟩ : ∃ W2, W2 = W1.alloc (.cells (Lib.byteCells (List.replicate L 0)).toArray 5) := ⟨_, rfl⟩
 have hmk1 := hmk W1
 rw [← hW2] at hmk1
 have HW2 : Shh (Row W2 N 62 (pc p) ∧ Below N w W2 ∧ W2.ownsRow N 5 1 (.slice (some ⟨W1.heap.size, 0, none⟩) 0 L) 0 (Lib.byteCells [])) := by
  have h2 := World.ownsRow_made (base := N) (e := 5) (size := 1) W1 (Lib.byteCells (List.replicate L 0)).toArray L (by have := HW1.out.1.lt; omega) (by have := HL2.out; unfold maxLen; omega) (by simp [Lib.byteCells_length])
  refine ⟨by rw [hW2]; exact HW1.out.1.alloc _, by rw [hW2]; exact HW1.out.2.alloc (Nat.le_of_lt HW1.out.1.lt) _, ?_⟩
  rw [hW2]
  exact h2
 obtain ⟨v0, hv0⟩ : ∃ v0, Shh (v0 = Value.slice (some ⟨W1.heap.size, 0, none⟩) 0 L) := ⟨_, ⟨rfl⟩⟩
 rw [← hv0.out] at hmk1 HW2
 rw [hW1] at hmk1
 clear hmk hW2 hv0 hW1 HW1
 go_enter Tryd.func86, Tryd.ntmps86
 go_wp2_with (first | refine wl_at 11 rfl (.int .i64 (L : Int)) rfl (mul_iin (i := 32) (j := d) hL.out HL3.out rfl rfl rfl) ?_ | refine wpList_load_any rfl 62 (.tmp 3) rfl N rfl 62 (pc p) (.array 256 39) HW2.out.1 Tryd.underlying62 rfl (info_poly.trans (size_poly p)) ?_)
 go_loopw [5, 6, 7, 14] (fun b r c i wr => ∃ k m n : Nat, k ≤ 256 ∧ i = .int .i64 (k : Int) ∧ r = .int .u32 ((A k / 256 ^ m : Nat) : Int) ∧ c = .int .i64 (n : Int) ∧ Shh (n + 8 * m = d * k ∧ n < 8 ∧ Below N w wr ∧ wr.ownsRow N 5 1 b m (Lib.byteCells (litB (A k) m)))) (fun _ _ _ i _ => 256 - (intOf i).toNat)
 case atStart => exact ⟨0, 0, 0, Nat.zero_le _, rfl, by rw [HA0.out.1]; rfl, rfl, ⟨⟨by omega, by decide, HW2.out.2.1, by rw [HA0.out.2]; exact HW2.out.2.2⟩⟩⟩
 case round =>
  clear HW2 hmk1
  obtain ⟨k, m, c, hk, rfl, rfl, rfl, HI⟩ := hrel
  by_cases hlt : k < 256
  ·have hlt2 : (k : Int) < 256 := by omega
   have HG := Shh.mk (pc_get p hlt)
   have HC := Shh.mk (HLO.out k hlt)
   obtain ⟨e1, e2⟩ := HP.out k m c HI.out.1
   have e3 := HPL.out k m c HI.out.1
   have e4 := HFL.out k
   have e5 : 2 ^ d ≤ 4096 := Nat.le_trans (Nat.pow_le_pow_right (by decide) HD.out.2) (by decide)
   have e6 : 2 ^ c ≤ 128 := Nat.le_trans (Nat.pow_le_pow_right (by decide) (show c ≤ 7 by have := HI.out.2.1; omega)) (by decide)
   have hc31 : Shh (c ≤ 31) := ⟨by have := HI.out.2.1; omega⟩
   have HI1 : Shh (Below N w wr ∧ wr.ownsRow N 5 1 u5 m (Lib.byteCells (litB (A (k + 1)) m))) := ⟨HI.out.2.2.1, by rw [e2]; exact HI.out.2.2.2⟩
   generalize p k = pk at *
   generalize f k = fk at *
   obtain ⟨x, Hx⟩ : ∃ x, Shh (x = A k / 256 ^ m) := ⟨_, ⟨rfl⟩⟩
   obtain ⟨z, Hz⟩ : ∃ z, Shh (z = A (k + 1) / 256 ^ m) := ⟨_, ⟨rfl⟩⟩
   rw [← Hx.out] at e1 e3 ⊢
   rw [← Hz.out] at e1
   obtain ⟨y, Hy⟩ : ∃ y, Shh (y = fk * 2 ^ c) := ⟨_, ⟨rfl⟩⟩
   have hyl : y ≤ 4096 * 128 := by rw [Hy.out]; exact Nat.mul_le_mul (by omega) e6
   rw [← Hy.out] at e1
   have HV : Shh (fk < 65536 ∧ y < 4294967296 ∧ z < 4294967296) := ⟨by omega, by omega, by omega⟩
   have HOR : Shh (z = x + fk * 2 ^ c ∧ x < 2 ^ c ∧ z < 4294967296) := ⟨by rw [← Hy.out]; exact e1, e3, HV.out.2.2⟩
   obtain ⟨c2, Hc2⟩ : ∃ v, Shh (v = c + d ∧ v ≤ 1000000000000) := ⟨_, ⟨rfl, by have := HI.out.2.1; have := HD.out; omega⟩⟩
   have HCD : Shh (c2 + 8 * m = d * (k + 1) ∧ c2 ≤ 19) := ⟨by rw [Nat.mul_succ, ← HI.out.1]; have := Hc2.out; omega, by have := Hc2.out; have := HI.out.2.1; have := HD.out; omega⟩
   clear e1 e2 e3 e4 e5 e6 hyl Hx HI
   go_wp2_with (first | refine wl_at 16 rfl (.int .u16 (pk : Int)) rfl (idx_poly hlt HG.out rfl rfl rfl) ?_ | (go_at_call 90; refine (HC.out _).mono ?_))
   rintro e w2 ⟨rfl, rfl⟩
   go_wp2_with (first | refine wl_at 21 rfl (.int .u32 (fk : Int)) rfl (conv_u32 HV.out.1 rfl rfl) ?_ | refine wl_at 23 rfl (.int .u32 ((fk * 2 ^ c : Nat) : Int)) rfl (shl_32 (n := fk) (d := c) rfl hc31.out (by rw [← Hy.out]; exact HV.out.2.1) rfl rfl rfl) ?_ | refine wl_at 24 rfl (.int .u32 (z : Int)) rfl (or_32 (n := x) (m := fk) (c := c) HOR.out.1 HOR.out.2.1 HOR.out.2.2 rfl rfl rfl) ?_ | refine wl_at 27 rfl (.int .i64 (c2 : Int)) rfl (add_ii (i := c) (j := d) Hc2.out rfl rfl rfl) ?_)
   go_loopw [5, 6, 7] (fun b r c wr => ∃ m n : Nat, r = .int .u32 ((A (k + 1) / 256 ^ m : Nat) : Int) ∧ c = .int .i64 (n : Int) ∧ Shh (n + 8 * m = d * (k + 1) ∧ n ≤ 19 ∧ Below N w wr ∧ wr.ownsRow N 5 1 b m (Lib.byteCells (litB (A (k + 1)) m)))) (fun _ _ c _ => (intOf c).toNat)
   case atStart => exact ⟨m, c2, by rw [Hz.out], rfl, ⟨⟨HCD.out.1, HCD.out.2, HI1.out.1, HI1.out.2⟩⟩⟩
   case round =>
    clear HI1 HCD
    obtain ⟨m2, n2, rfl, rfl, HI⟩ := hrel
    have e3 := HPL.out (k + 1) m2 n2 HI.out.1
    have e6 : 2 ^ n2 ≤ 2 ^ 19 := Nat.pow_le_pow_right (by decide) HI.out.2.1
    obtain ⟨z2, Hz2⟩ : ∃ z2, Shh (z2 = A (k + 1) / 256 ^ m2) := ⟨_, ⟨rfl⟩⟩
    have hz2l : z2 < 4294967296 := by rw [Hz2.out]; exact Nat.lt_trans (Nat.lt_of_lt_of_le e3 e6) (by decide)
    have HZL := Shh.mk hz2l
    clear e3 e6 hz2l
    by_cases h8 : 8 ≤ n2
    ·have h8i : (8 : Int) ≤ (n2 : Int) := by omega
     rw [← Hz2.out]
     obtain ⟨b, Hb⟩ : ∃ b, Shh (b = z2 % 256) := ⟨_, ⟨rfl⟩⟩
     obtain ⟨z3, Hz3⟩ : ∃ z3, Shh (z3 = z2 / 256) := ⟨_, ⟨rfl⟩⟩
     obtain ⟨n3, Hn3⟩ : ∃ n3, Shh (n2 = n3 + 8 ∧ n2 ≤ 1000000000000) := ⟨n2 - 8, ⟨by omega, by have := HI.out.2.1; omega⟩⟩
     have HE : Shh (z3 = A (k + 1) / 256 ^ (m2 + 1) ∧ Lib.byteCells (litB (A (k + 1)) m2) ++ [Value.int .u8 (b : Int)] = Lib.byteCells (litB (A (k + 1)) (m2 + 1))) := by
      constructor
      constructor
      ·rw [Hz3.out, Hz2.out, Nat.pow_succ, Nat.div_div_eq_div_mul]
      ·rw [litB_snoc, Hb.out, Hz2.out]
       simp [Lib.byteCells]
     have hbn := HI.out.2.2.1
     have hsz : N ≤ wr.heap.size := by have := hbn.size; rw [hN] at this; exact this
     have hml : m2 + 1 ≤ 140737488355328 := by
      have h1 := HI.out.1
      have h2 : d * (k + 1) ≤ 12 * 256 := Nat.mul_le_mul HD.out.2 (by omega)
      omega
     have HJ := Shh.mk (And.intro HI.out.1 HI.out.2.1)
     have hown := HI.out.2.2.2
     clear HI
     go_wp2_with (first | refine wl_at 34 rfl (.int .u8 (b : Int)) rfl (conv_32b (n := z2) Hb.out rfl rfl) ?_ | (at_builtin; refine wp_append1 _ 23 5 i0 (.int .u8 0) Tryd.underlying23 hi hz0 hz1 hz2 rfl rfl _ _ rfl hown rfl rfl rfl hml hsz ?_))
     intro v' w1 hown2 _ hb1
     rw [HE.out.2] at hown2
     have HO := Shh.mk (And.intro hown2 (hbn.trans (hb1 N (Nat.le_refl _))))
     clear hown hown2 hb1 hbn hsz hml
     go_wp2_with (first | refine wl_at 38 rfl (.int .u32 (z3 : Int)) rfl (shr_32c (n := z2) Hz3.out HZL.out rfl rfl) ?_ | refine wl_at 31 rfl (.int .i64 (n3 : Int)) rfl (sub_ii (i := n2) (j := 8) Hn3.out rfl rfl rfl) ?_)
     refine ⟨⟨_, _, _, _, _, _, _, _, _, _, _, _, _, _, ?rel, rfl⟩, ?measure⟩
     case rel => exact ⟨m2 + 1, n3, by rw [HE.out.1], rfl, ⟨⟨by have := HJ.out; have := Hn3.out; omega, by have := HJ.out; have := Hn3.out; omega, HO.out.2, HO.out.1⟩⟩⟩
     case measure => (have := Hn3.out; simp [intOf]; omega)
    ·have h8i : ¬ (8 : Int) ≤ (n2 : Int) := by omega
     go_wp2
     go_roundw
     case rel => exact ⟨k + 1, m2, n2, by omega, by go_num, rfl, rfl, ⟨⟨HI.out.1, by omega, HI.out.2.2⟩⟩⟩
     case measure => simp [intOf]; omega
  ·have hlt2 : ¬ (k : Int) < 256 := by omega
   have HF : Shh (m = L ∧ k = 256) := by
    have h1 := HI.out.1
    have h2 : k = 256 := by omega
    rw [h2] at h1
    have h3 := hL.out
    have h4 := HI.out.2.1
    exact ⟨by omega, h2⟩
   have hown := HI.out.2.2.2
   rw [HF.out.1, HF.out.2] at hown
   have HO := Shh.mk (And.intro hown HI.out.2.2.1)
   clear hown HI
   go_wp2
   go_ret
   refine ⟨_, rfl, ?_, ?_⟩
   ·rw [hN, litB_length]
    exact HO.out.1
   ·rw [hN]
    exact HO.out.2
end Go.Proofs.YtbjpbeplpljieaaDoor

/-
 THE PROGRAM'S OWN Encode.
-/
namespace Go.Proofs.YtbjpbeplpljieaaDoor
open Go.RowKit
set_option maxRecDepth 100000
/-- what is encoded of a coefficient -/
def encF (d : Nat) (p : Nat → Nat) (i : Nat) : Nat := (if d = 12 then p i % 3329 else p i) % 2 ^ d
def encB (d : Nat) (p : Nat → Nat) : List UInt8 := litB (sumN (encF d p) (2 ^ d) 256) (32 * d)
theorem encB_length (d : Nat) (p : Nat → Nat) : (encB d p).length = 32 * d := litB_length _ _
theorem encF_lt (d : Nat) (p : Nat → Nat) (i : Nat) : encF d p i < 2 ^ d := Nat.mod_lt _ (Nat.two_pow_pos d)
set_option maxHeartbeats 1000000 in
theorem Encode_any (d : Nat) (hd : 1 ≤ d ∧ d ≤ 12) (p : Nat → Nat) (hp : ∀ i, i < 256 → p i < 65536) (w : World) : Calls Tryd.prog 67 #[.int .i64 (d : Int), polyV p] w (PutIs w 0 (encB d p)) := by
 unfold PutIs polyV
 generalize hN : w.heap.size = N at *
 have i1 : ¬ (d : Int) < 1 := by omega
 have i2 : ¬ (12 : Int) < (d : Int) := by omega
 have HL0 : Shh (Row (w.alloc (.cells (pc p).toArray 62)) N 62 (pc p) ∧ Below N w (w.alloc (.cells (pc p).toArray 62))) := by
  refine ⟨Row.new_ hN.symm rfl, ?_⟩
  rw [← hN]
  exact bel1 _ _
 by_cases h12 : d = 12
 ·subst h12
  have HR : Shh (∀ W, Calls Tryd.prog 76 #[.agg (pc p).toArray] W (PolyIs W (redN p))) := ⟨fun W => Reduce_any p hp W⟩
  have HC : Shh (∀ W, Calls Tryd.prog 86 #[.int .i64 12, .agg (pc (redN p)).toArray] W (OwnIs W (encB 12 p))) := ⟨fun W => by
   have h := packed_any 12 hd (redN p) (fun i _ => Nat.lt_trans (rd_lt _) (by decide)) W
   unfold encB
   rw [show encF 12 p = fun i => redN p i % 2 ^ 12 from funext fun i => by unfold encF redN; rw [if_pos rfl, rd_same]]
   exact h⟩
  generalize encB 12 p = bs at *
  generalize redN p = r at *
  clear hp hd i1 i2
  go_enter Tryd.func67, Tryd.ntmps67
  go_wp2_with (first | refine wpList_load_any rfl 62 (.tmp 3) rfl N rfl 62 (pc p) (.array 256 39) HL0.out.1 Tryd.underlying62 rfl (info_poly.trans (size_poly p)) ?_ | (go_at_call 76; refine (HR.out _).mono ?_))
  rintro e w2 ⟨rfl, b2⟩
  have HI : Shh (Row w2 N 62 (pc p) ∧ Below N w w2) := ⟨HL0.out.1.go b2, HL0.out.2.trans (b2.mono (by have := HL0.out.1.lt; omega))⟩
  clear b2 HL0 HR
  go_wp2_with (refine wpList_store_any rfl 62 (.tmp 3) (.tmp 15) rfl N rfl (pc r) rfl 62 _ HI.out.1 (info_poly.trans (size_poly r)) (by rw [pc_length, pc_length]) (pc_one r) ?_)
  intro w3 r3 b3 z3
  have HJ : Shh (Row w3 N 62 (pc r) ∧ Below N w w3) := ⟨r3, HI.out.2.trans (b3.under (Nat.le_of_lt HI.out.1.lt) (Nat.le_refl _))⟩
  clear r3 b3 z3 HI
  go_wp2_with (first | refine wpList_load_any rfl 62 (.tmp 3) rfl N rfl 62 (pc r) (.array 256 39) HJ.out.1 Tryd.underlying62 rfl (info_poly.trans (size_poly r)) ?_ | (go_at_call 86; refine (HC.out _).mono ?_))
  rintro e w4 ⟨v, rfl, ho, hb⟩
  have HO : Shh (w4.ownsRow N 5 1 v bs.length (Lib.byteCells bs) ∧ Below N w w4) := ⟨own_mono ho (Nat.le_of_lt HJ.out.1.lt), HJ.out.2.trans (hb.mono (Nat.le_of_lt HJ.out.1.lt))⟩
  clear ho hb HJ
  go_wp2
  go_ret2
  refine ⟨_, rfl, ?_, ?_⟩
  ·rw [hN]
   exact HO.out.1
  ·rw [hN]
   exact HO.out.2
 ·have HC : Shh (∀ W, Calls Tryd.prog 86 #[.int .i64 (d : Int), .agg (pc p).toArray] W (OwnIs W (encB d p))) := ⟨fun W => by
   have h := packed_any d hd p hp W
   unfold encB
   rw [show encF d p = fun i => p i % 2 ^ d from funext fun i => by unfold encF; rw [if_neg h12]]
   exact h⟩
  generalize encB d p = bs at *
  have hd12 : ¬ (d : Int) = 12 := by omega
  clear hp hd h12
  go_enter Tryd.func67, Tryd.ntmps67
  go_wp2_with (first | refine wpList_load_any rfl 62 (.tmp 3) rfl N rfl 62 (pc p) (.array 256 39) HL0.out.1 Tryd.underlying62 rfl (info_poly.trans (size_poly p)) ?_ | (go_at_call 86; refine (HC.out _).mono ?_))
  rintro e w4 ⟨v, rfl, ho, hb⟩
  have HO : Shh (w4.ownsRow N 5 1 v bs.length (Lib.byteCells bs) ∧ Below N w w4) := ⟨own_mono ho (Nat.le_of_lt HL0.out.1.lt), HL0.out.2.trans (hb.mono (Nat.le_of_lt HL0.out.1.lt))⟩
  clear ho hb HL0
  go_wp2
  go_ret2
  refine ⟨_, rfl, ?_, ?_⟩
  ·rw [hN]
   exact HO.out.1
  ·rw [hN]
   exact HO.out.2
set_option maxHeartbeats 1000000 in
theorem Encode_bad (n : Int) (hn : n < 1 ∨ 12 < n) (p : Nat → Nat) (w : World) : Calls Tryd.prog 67 #[.int .i64 n, polyV p] w (PutIs w 1 []) := by
 unfold PutIs polyV
 have HB : Shh (Below w.heap.size w (w.alloc (.cells (pc p).toArray 62))) := ⟨bel1 _ _⟩
 have HO := Shh.mk (World.ownsRow_nil (w.alloc (.cells (pc p).toArray 62)) w.heap.size 5 1)
 go_enter Tryd.func67, Tryd.ntmps67
 by_cases h1 : n < 1
 ·clear hn
  go_wp2
  go_ret2
  exact ⟨_, rfl, HO.out, HB.out⟩
 ·have h2 : 12 < n := by omega
  clear hn
  go_wp2
  go_ret2
  exact ⟨_, rfl, HO.out, HB.out⟩
end Go.Proofs.YtbjpbeplpljieaaDoor

/-
 THE PROGRAM'S OWN unpacked: coefficients of d bits out of bytes.
-/
namespace Go.Proofs.YtbjpbeplpljieaaDoor
open Go.RowKit
set_option maxRecDepth 100000
section
variable {a : Act} {x y : Operand} {op : Oper} {w : World}
theorem conv_8_32 {n : Nat} (hn : n < 256) (ho : op.op = .convert 5 110 x) (hx : a.eval x = .int .u8 (n : Int)) : (execOp a.eval op).run Tryd.prog w = .ok (.value (.int .u32 (n : Int))) w := by
 have hw : IntKind.u32.wrap (n : Int) = (n : Int) := by rw [IntKind.wrap_u32]; omega
 have hm : (n : Int) % 4294967296 = (n : Int) := by omega
 unfold execOp
 simp only [ho, hx]
 go_simp
end
set_option maxHeartbeats 2000000 in
theorem unpacked_any (d : Nat) (hd : 1 ≤ d ∧ d ≤ 12) (B : Nat) (v : Value) (bs : List UInt8) (hl : bs.length = 32 * d) (w : World) (hs : Sl w B v bs) (hB : B ≤ w.heap.size) : Calls Tryd.prog 88 #[.int .i64 (d : Int), v] w (PolyIs w (decN d (litN bs))) := by
 unfold PolyIs polyV
 generalize hN : w.heap.size = N at *
 obtain ⟨V, hV⟩ : ∃ V, Shh (V = litN bs) := ⟨_, ⟨rfl⟩⟩
 have HBY : Shh (∀ m (h : m < bs.length), V / 256 ^ m % 256 = (bs[m]).toNat) := ⟨fun m h => by rw [hV.out]; exact litN_byte bs m h⟩
 rw [← hV.out]
 obtain ⟨r, hr⟩ : ∃ r : Nat → Nat, Shh (r = decN d V) := ⟨_, ⟨rfl⟩⟩
 have HR : Shh (∀ k, r k = V / 2 ^ (d * k) % 2 ^ d ∧ r k < 65536) := ⟨fun k => by
  rw [hr.out]
  refine ⟨rfl, Nat.lt_of_lt_of_le (decN_lt d V k) (Nat.le_trans (Nat.pow_le_pow_right (by decide) hd.2) (by decide))⟩⟩
 rw [← hr.out]
 have HD := Shh.mk (And.intro hd (And.intro hl hB))
 have HS0 := Shh.mk hs
 have HLO : Shh (∀ n : Nat, n < 65536 → ∀ W, Calls Tryd.prog 90 #[.int .i64 (d : Int), .int .u16 (n : Int)] W (U16Is W (n % 2 ^ d))) := ⟨fun n hn W => low_any d n (by omega) hn W⟩
 clear hr hV hd hl hB hs
 obtain ⟨W, hW⟩ : ∃ W, W = (w.alloc (.cells (pc fun _ => 0).toArray 62)).alloc (.cells (pc fun _ => 0).toArray 62) := ⟨_, rfl⟩
 have HW : Shh (Row W N 62 (pc fun _ => 0) ∧ Row W (N + 1) 62 (pc (half r (fun _ => 0) 0)) ∧ Below N w W ∧ Sl W B v (bs.drop 0)) := by
  have hb : Below N w W := by
   rw [hW, ← hN]
   exact Below.chain (bel1 _ _) (bel1 _ _)
  refine ⟨by rw [hW]; exact (Row.new_ hN.symm rfl).alloc _, by rw [hW, half_zero]; exact Row.new_ (by rw [asz, hN]) rfl, hb, ?_⟩
  rw [List.drop_zero]
  exact HS0.out.below (hb.mono HD.out.2.2)
 go_enter Tryd.func88, Tryd.ntmps88
 go_wp2_with (refine wl_allocP rfl rfl ?_)
 try simp only [asz, hN]
 rw [← hW]
 clear hW HS0
 go_wp2
 go_loopw [1, 6, 7, 9] (fun b s c i wr => ∃ k m n : Nat, k ≤ 256 ∧ i = .int .i64 (k : Int) ∧ s = .int .u32 ((V / 2 ^ (d * k) % 2 ^ n : Nat) : Int) ∧ c = .int .i64 (n : Int) ∧ Shh (d * k + n = 8 * m ∧ n < 8 ∧ Row wr N 62 (pc fun _ => 0) ∧ Row wr (N + 1) 62 (pc (half r (fun _ => 0) k)) ∧ Below N w wr ∧ Sl wr B b (bs.drop m))) (fun _ _ _ i _ => 256 - (intOf i).toNat)
 case atStart => exact ⟨0, 0, 0, Nat.zero_le _, rfl, by rw [Nat.pow_zero, Nat.mod_one]; rfl, rfl, ⟨⟨by omega, by decide, HW.out⟩⟩⟩
 case round =>
  clear HW
  obtain ⟨k, m, n, hk, rfl, rfl, rfl, HI⟩ := hrel
  by_cases hlt : k < 256
  ·have hlt2 : (k : Int) < 256 := by omega
   go_wp2
   go_loopw [1, 6, 7] (fun b s c wq => ∃ m n : Nat, s = .int .u32 ((V / 2 ^ (d * k) % 2 ^ n : Nat) : Int) ∧ c = .int .i64 (n : Int) ∧ Shh (d * k + n = 8 * m ∧ n < d + 8 ∧ wq = wr ∧ Sl wr B b (bs.drop m))) (fun _ _ c _ => d + 8 - (intOf c).toNat)
   case atStart => exact ⟨m, n, rfl, rfl, ⟨⟨HI.out.1, by have := HI.out.2.1; omega, rfl, HI.out.2.2.2.2.2⟩⟩⟩
   case round =>
    obtain ⟨m2, n2, rfl, rfl, HJ⟩ := hrel
    have hwr := HJ.out.2.2.1
    subst hwr
    by_cases hn : n2 < d
    ·have hn2 : (n2 : Int) < (d : Int) := by omega
     have hm : m2 < bs.length := by
      have h1 := HJ.out.1
      have h2 : d * (k + 1) ≤ d * 256 := Nat.mul_le_mul_left _ (by omega)
      rw [Nat.mul_succ] at h2
      have h3 := HD.out.2.1
      omega
     have HB1 := Shh.mk (HBY.out m2 hm)
     obtain ⟨A, cc, rfl, _, _⟩ := HJ.out.2.2.2.form
     have hlen : 0 < (bs.drop m2).length := by rw [List.length_drop]; omega
     obtain ⟨g, off, rfl, hg, hcc⟩ := HJ.out.2.2.2.at_ hlen
     have c1 := hcc 0 hlen
     rw [List.getElem_drop] at c1
     simp only [Nat.add_zero] at c1
     have hby : (bs[m2]).toNat < 256 := (bs[m2]).toNat_lt
     generalize (bs[m2]).toNat = q at *
     obtain ⟨x, Hx⟩ : ∃ x, Shh (x = V / 2 ^ (d * k) % 2 ^ n2) := ⟨_, ⟨rfl⟩⟩
     obtain ⟨z, Hz⟩ : ∃ z, Shh (z = V / 2 ^ (d * k) % 2 ^ (n2 + 8)) := ⟨_, ⟨rfl⟩⟩
     obtain ⟨n3, Hn3⟩ : ∃ n3, Shh (n3 = n2 + 8 ∧ n3 ≤ 1000000000000) := ⟨_, ⟨rfl, by have := HD.out; omega⟩⟩
     have e6 : 2 ^ n2 ≤ 4096 := Nat.le_trans (Nat.pow_le_pow_right (by decide) (show n2 ≤ 12 by have := HD.out; omega)) (by decide)
     have e7 : 2 ^ (n2 + 8) ≤ 1048576 := Nat.le_trans (Nat.pow_le_pow_right (by decide) (show n2 + 8 ≤ 20 by have := HD.out; omega)) (by decide)
     have e8 : q * 2 ^ n2 ≤ 256 * 4096 := Nat.mul_le_mul (Nat.le_of_lt hby) e6
     have HOR : Shh (z = x + q * 2 ^ n2 ∧ x < 2 ^ n2 ∧ z < 4294967296) := ⟨by rw [Hz.out, Hx.out, unpack_in V (d * k) n2 m2 HJ.out.1, HB1.out], by rw [Hx.out]; exact Nat.mod_lt _ (Nat.two_pow_pos _), by rw [Hz.out]; exact Nat.lt_of_lt_of_le (Nat.mod_lt _ (Nat.two_pow_pos _)) (by omega)⟩
     have HQ : Shh (q < 256 ∧ n2 ≤ 31 ∧ q * 2 ^ n2 < 4294967296 ∧ 1 ≤ (bs.drop m2).length) := ⟨hby, by have := HD.out; omega, by omega, hlen⟩
     rw [← Hx.out]
     clear e6 e7 e8 hcc hg Hx
     have HSL := Shh.mk HJ.out.2.2.2
     have HJ2 := Shh.mk (And.intro HJ.out.1 HJ.out.2.1)
     have HDR : Shh ((bs.drop m2).tail = bs.drop (m2 + 1)) := ⟨by rw [← List.drop_one, List.drop_drop]⟩
     clear HJ
     generalize hbd : bs.drop m2 = bd at *
     have HBD := Shh.mk hbd
     clear hbd
     generalize hln : bd.length = ln at *
     have HLN := Shh.mk hln
     clear hln
     go_wp2_with (first | refine wl_at 21 rfl (.int .u32 (q : Int)) rfl (conv_8_32 HQ.out.1 rfl rfl) ?_ | refine wl_at 23 rfl (.int .u32 ((q * 2 ^ n2 : Nat) : Int)) rfl (shl_32 (n := q) (d := n2) rfl HQ.out.2.1 HQ.out.2.2.1 rfl rfl rfl) ?_ | refine wl_at 24 rfl (.int .u32 (z : Int)) rfl (or_32 (n := x) (m := q) (c := n2) HOR.out.1 HOR.out.2.1 HOR.out.2.2 rfl rfl rfl) ?_ | refine wpList_slice_from rfl (.tmp 25) (.const (.int .i64 1)) rfl B _ rfl bd HSL.out 1 rfl (by rw [HLN.out]; exact HQ.out.2.2.2) ?_)
     intro v' hsl _
     rw [HDR.out] at hsl
     have HN3 := Shh.mk hsl
     clear hsl
     go_wp2_with (refine wl_at 16 rfl (.int .i64 (n3 : Int)) rfl (add_ii (i := n2) (j := 8) Hn3.out rfl rfl rfl) ?_)
     go_roundw
     case rel => exact ⟨m2 + 1, n3, by rw [Hz.out, Hn3.out.1], rfl, ⟨⟨by have := HJ2.out; have := Hn3.out; omega, by have := Hn3.out; omega, trivial, HN3.out⟩⟩⟩
     case measure => (have := Hn3.out; simp [intOf]; omega)
    ·have hn2 : ¬ (n2 : Int) < (d : Int) := by omega
     obtain ⟨f1, f2⟩ := unpack_out V (d * k) n2 d (by omega)
     have e6 : 2 ^ n2 ≤ 1048576 := Nat.le_trans (Nat.pow_le_pow_right (by decide) (show n2 ≤ 20 by have := HD.out; have := HJ.out; omega)) (by decide)
     have e7 : V / 2 ^ (d * k) % 2 ^ n2 < 2 ^ n2 := Nat.mod_lt _ (Nat.two_pow_pos _)
     obtain ⟨x, Hx⟩ : ∃ x, Shh (x = V / 2 ^ (d * k) % 2 ^ n2) := ⟨_, ⟨rfl⟩⟩
     rw [← Hx.out] at f1 f2 e7 ⊢
     obtain ⟨y, Hy⟩ : ∃ y, Shh (y = x % 65536) := ⟨_, ⟨rfl⟩⟩
     obtain ⟨x2, Hx2⟩ : ∃ x2, Shh (x2 = x / 2 ^ d) := ⟨_, ⟨rfl⟩⟩
     obtain ⟨n3, Hn3⟩ : ∃ n3, Shh (n2 = n3 + d ∧ n2 ≤ 1000000000000) := ⟨n2 - d, ⟨by omega, by have := HD.out; have := HJ.out; omega⟩⟩
     have hrk : y % 2 ^ d = r k := by
      rw [Hy.out, Nat.mod_mod_of_dvd _ (show 2 ^ d ∣ 65536 from Nat.pow_dvd_pow 2 (show d ≤ 16 by have := HD.out; omega)), f1, ← (HR.out k).1]
     have HC : Shh (∀ W, Calls Tryd.prog 90 #[.int .i64 (d : Int), .int .u16 (y : Int)] W (U16Is W (r k))) := ⟨fun W => by rw [← hrk]; exact HLO.out y (by have := Hy.out; omega) W⟩
     have HX : Shh (x < 4294967296 ∧ d ≤ 31 ∧ x2 = V / 2 ^ (d * (k + 1)) % 2 ^ n3) := ⟨by omega, by have := HD.out; omega, by rw [Hx2.out, f2, Nat.mul_succ]; congr 2; have := Hn3.out; omega⟩
     have HN2 := Shh.mk (half_next r (fun _ => 0) k)
     have HI2 := Shh.mk (And.intro HI.out.2.2 HJ.out)
     clear f1 f2 e6 e7 hrk HJ HI
     generalize r k = rk at *
     go_wp2_with (first | refine wl_at 30 rfl (.int .u16 (y : Int)) rfl (conv_32 (n := x) Hy.out rfl rfl) ?_ | (go_at_call 90; refine (HC.out _).mono ?_))
     rintro e w2 ⟨rfl, rfl⟩
     go_wp2_with (first | refine wl_at 32 rfl (.pointer (some ⟨N + 1, k, none⟩)) rfl (at_poly hlt rfl rfl rfl) ?_ | refine wl_storeP rfl hlt rfl rfl rfl HI2.out.1.2.1 ?_)
     intro w3 r3 b3 z3
     rw [HN2.out] at r3
     have hbn : B ≤ wr.heap.size := by have h1 := HI2.out.1.1.lt; have h2 := HD.out.2.2; omega
     have HO : Shh (Row w3 N 62 (pc fun _ => 0) ∧ Row w3 (N + 1) 62 (pc (half r (fun _ => 0) (k + 1))) ∧ Below N w w3 ∧ Sl w3 B u1 (bs.drop m2)) := ⟨b3.row HI2.out.1.1 HI2.out.1.1.lt (by omega), r3, HI2.out.1.2.2.1.trans (b3.under (Nat.le_of_lt HI2.out.1.1.lt) (Nat.le_succ _)), HI2.out.2.2.2.2.below (b3.under hbn (by have h2 := HD.out.2.2; omega))⟩
     clear r3 b3 z3 hbn
     go_wp2_with (first | refine wl_at 35 rfl (.int .u32 (x2 : Int)) rfl (shr_32 (n := x) (d := d) Hx2.out HX.out.2.1 HX.out.1 rfl rfl rfl) ?_ | refine wl_at 38 rfl (.int .i64 (n3 : Int)) rfl (sub_ii (i := n2) (j := d) Hn3.out rfl rfl rfl) ?_)
     go_roundw
     case rel => exact ⟨k + 1, m2, n3, by omega, by go_num, by rw [HX.out.2.2], rfl, ⟨⟨by have h1 := HI2.out.2.1; have h2 := Hn3.out; rw [Nat.mul_succ]; omega, by have h1 := HI2.out.2.2.1; have h2 := Hn3.out; omega, HO.out⟩⟩⟩
     case measure => simp [intOf]; omega
  ·have HL : Shh (pc (half r (fun _ => 0) k) = pc r) := ⟨by rw [show k = 256 by omega]; exact half_all _ _⟩
   have HI2 := Shh.mk HI.out.2.2
   rw [HL.out] at HI2
   have hlt2 : ¬ (k : Int) < 256 := by omega
   clear HI HL
   go_wp2_with (first
    | refine wpList_load_any rfl 62 (.tmp 5) rfl (N + 1) rfl 62 (pc r) (.array 256 39) HI2.out.2.1 Tryd.underlying62 rfl (info_poly.trans (size_poly r)) ?_
    | refine wpList_store_any rfl 62 (.tmp 4) (.tmp 40) rfl N rfl (pc r) rfl 62 _ HI2.out.1 (info_poly.trans (size_poly r)) (by rw [pc_length, pc_length]) (pc_one r) ?_)
   intro w9 hr9 b9 _
   have hb9 := HI2.out.2.2.1.trans (b9.under (Nat.le_of_lt HI2.out.1.lt) (Nat.le_refl _))
   go_wp2
   exact ret_row Tryd.results88 rfl rfl hr9 Tryd.underlying62 rfl (info_poly.trans (size_poly r)) ⟨rfl, hb9⟩
end Go.Proofs.YtbjpbeplpljieaaDoor

/-
 THE DOCUMENT'S OWN Encode.
-/
namespace Go.Proofs.YtbjpbeplpljieaaDoor
open Go.RowKit
set_option maxRecDepth 100000
theorem bit_div (c j : Nat) : (((c / 2 ^ j % 2 : Nat) : Int) == 1) = c.testBit j := by
 rw [Nat.testBit_eq_decide_div_mod_eq]
 generalize c / 2 ^ j % 2 = r
 by_cases h : r = 1
 ·rw [h]
  rfl
 ·rw [decide_eq_false h]
  exact beq_false_of_ne (by omega)
theorem eql_12 {a : Act} {x : Operand} {op : Oper} {w : World} {n : Nat} (h : n = 12) (ho : op.op = .binOp .eql 3 x (.const (.int .i64 12)) 3) (hx : a.eval x = .int .i64 (n : Int)) : (execOp a.eval op).run Tryd.prog w = .ok (.value (.bool true)) w := by
 subst h
 have hc : a.eval (.const (.int .i64 12)) = .int .i64 12 := rfl
 unfold execOp
 simp only [ho, hx, hc]
 go_simp
theorem neq_12 {a : Act} {x : Operand} {op : Oper} {w : World} {n : Nat} (h : ¬ n = 12) (ho : op.op = .binOp .eql 3 x (.const (.int .i64 12)) 3) (hx : a.eval x = .int .i64 (n : Int)) : (execOp a.eval op).run Tryd.prog w = .ok (.value (.bool false)) w := by
 have hc : a.eval (.const (.int .i64 12)) = .int .i64 12 := rfl
 have h2 : ((n : Int) == 12) = false := beq_false_of_ne (by omega)
 unfold execOp
 simp only [ho, hx, hc]
 go_simp
end Go.Proofs.YtbjpbeplpljieaaDoor

/-
 THE PROGRAM'S OWN Ntt.
-/
namespace Go.Proofs.YtbjpbeplpljieaaDoor
open Go.RowKit
set_option maxRecDepth 100000
section
variable {md : Region.Mode} {ops : Array Oper} {Q : Exit → Act → World → Prop} {S : World → Prop} {fuel : Nat} {listed : Array Bool} {a : Act} {w : World}
/-- a store into a polynomial, in a drawn region -/
theorem step_storeP (i : Nat) {x y : Operand} (hop : (ops[i]?).map (fun o => (o.op, o.type, o.dst)) = some (.store 39 x y, 0, none)) (hw : (ops[i]?).map (fun o => Region.wanted o (yielded ops a.tmps)) = some true)
 {g k v : Nat} {T : TypeId} {q : Nat → Nat} (hk : k < 256) (hr : Row w g T (pc q)) (hx : a.eval x = .pointer (some ⟨g, k, none⟩)) (hy : a.eval y = .int .u16 (v : Int))
 (h : ∀ w2, Row w2 g T (pc (upd q k v)) → But w.heap.size g w w2 → w2.heap.size = w.heap.size → S w2 ∧ wpAnyH Tryd.prog md ops Q S fuel (listed.setIfInBounds i true) a w2) : HStep Tryd.prog md ops Q S fuel listed a w i := by
 have hs := hr.set_ k (.int .u16 (v : Int))
 rw [pc_set] at hs
 exact step_store1 i _ hop hw (w.setCell ⟨g, k, none⟩ (.int .u16 (v : Int))) (run_storeP hk hr rfl hx hy) (h _ hs ((But.refl _ _ _).setCell _ _) (by simp [World.setCell]))
end
/-- the blocks of a layer, and the half of a block's length -/
def isLay (J H : Nat) : Prop := J = 1 ∧ H = 128 ∨ J = 2 ∧ H = 64 ∨ J = 4 ∧ H = 32 ∨ J = 8 ∧ H = 16 ∨ J = 16 ∧ H = 8 ∨ J = 32 ∧ H = 4 ∨ J = 64 ∧ H = 2 ∨ J = 128 ∧ H = 1
theorem isLay.half {J H : Nat} (h : isLay J H) (hJ : J < 128) : isHalf H ∧ 1 ≤ J ∧ J ≤ 64 ∧ H = 128 / J ∧ H * J = 128 ∧ H ≤ 128 ∧ 2 ≤ H ∧ isLay (2 * J) (H / 2) ∧ 2 * (H / 2) = H := by
 unfold isHalf isLay
 rcases h with ⟨rfl, rfl⟩ | ⟨rfl, rfl⟩ | ⟨rfl, rfl⟩ | ⟨rfl, rfl⟩ | ⟨rfl, rfl⟩ | ⟨rfl, rfl⟩ | ⟨rfl, rfl⟩ | ⟨rfl, rfl⟩ <;> first | omega | simp
theorem isLay.le {J H : Nat} (h : isLay J H) : J ≤ 128 := by unfold isLay at h; omega
theorem isLay.last {J H : Nat} (h : isLay J H) (hJ : ¬ J < 128) : J = 128 ∧ H = 1 := by unfold isLay at h; omega
/-- the places in a block are places in the polynomial -/
theorem place_lt {J H k j : Nat} (h : H * J = 128) (hk : k < J) (hj : j < H) : 2 * H * k + j + H < 256 ∧ 2 * H * k ≤ 256 := by
 have h1 : 2 * H * (k + 1) ≤ 2 * H * J := Nat.mul_le_mul_left _ hk
 rw [Nat.mul_assoc 2 H J, h] at h1
 rw [Nat.mul_succ] at h1
 omega
set_option maxHeartbeats 2000000 in
theorem Ntt_any (p : Nat → Nat) (hp : ∀ i, i < 256 → p i < 65536) (w : World) : Calls Tryd.prog 62 #[polyV p] w (PolyIs w (nttN p)) := by
 unfold PolyIs polyV
 generalize hN : w.heap.size = N at *
 have HRT : Shh (∀ W, Calls Tryd.prog 77 #[] W (RootsIs W)) := ⟨fun W => roots_any W⟩
 obtain ⟨F, HRD, HLA, HS, HB⟩ : ∃ F : Nat → Nat → Nat → Nat, Shh (∀ W, Calls Tryd.prog 76 #[.agg (pc p).toArray] W (PolyIs W (F 256 1))) ∧ Shh (pc (F 2 128) = pc (nttN p)) ∧ Shh (∀ H J k j, 1 ≤ J → J ≤ 64 → k < J → j < H → F H (2 * J) (2 * H * k + j) = (F (2 * H) J (2 * H * k + j) + wN (J + k) * F (2 * H) J (2 * H * k + j + H) % 3329) % 3329 ∧ F H (2 * J) (2 * H * k + j + H) = (F (2 * H) J (2 * H * k + j) + 3329 - wN (J + k) * F (2 * H) J (2 * H * k + j + H) % 3329) % 3329) ∧ Shh (∀ L J i, F L J i < 3329) :=
  ⟨fun L J => layN 1 L J p, ⟨fun W => by unfold PolyIs polyV; rw [show pc (layN 1 256 1 p) = pc (redN p) from pc_of fun i hi => layN_first p i hi]; exact Reduce_any p hp W⟩, ⟨pc_of fun i hi => layN_last p i hi⟩, ⟨fun H J k j h1 h2 h3 h4 => ⟨layN_lo H J k j h1 h2 h3 h4 p, layN_hi H J k j h1 h2 h3 h4 p⟩⟩, ⟨fun L J i => layN_lt 1 L J p i⟩⟩
 generalize nttN p = fin at *
 clear hp
 have HL0 : Shh (Row ((w.alloc (.cells (pc p).toArray 62)).alloc (.cells (pc fun _ => 0).toArray 62)) N 62 (pc p) ∧ Row ((w.alloc (.cells (pc p).toArray 62)).alloc (.cells (pc fun _ => 0).toArray 62)) (N + 1) 62 (pc fun _ => 0) ∧ Below N w ((w.alloc (.cells (pc p).toArray 62)).alloc (.cells (pc fun _ => 0).toArray 62))) := by
  refine ⟨(Row.new_ hN.symm rfl).alloc _, Row.new_ (by rw [asz, hN]) rfl, ?_⟩
  rw [← hN]
  exact Below.chain (bel1 _ _) (bel1 _ _)
 go_enter Tryd.func62, Tryd.ntmps62
 go_wp2_with (first | refine wl_allocP rfl rfl ?_ | refine wpList_load_any rfl 62 (.tmp 1) rfl N rfl 62 (pc p) (.array 256 39) HL0.out.1 Tryd.underlying62 rfl (info_poly.trans (size_poly p)) ?_ | (go_at_call 76; refine (HRD.out _).mono ?_))
 rintro e w2 ⟨rfl, b2⟩
 have HW2 : Shh (Row w2 N 62 (pc p) ∧ Row w2 (N + 1) 62 (pc fun _ => 0) ∧ Below N w w2) := ⟨HL0.out.1.go b2, HL0.out.2.1.go b2, HL0.out.2.2.trans (b2.mono (by have := HL0.out.1.lt; omega))⟩
 clear b2 HL0 HRD
 go_wp2_with (refine wpList_store_any rfl 62 (.tmp 1) (.tmp 12) rfl N rfl (pc (F 256 1)) rfl 62 _ HW2.out.1 (info_poly.trans (size_poly _)) (by rw [pc_length, pc_length]) (pc_one _) ?_)
 intro w3 r3 b3 z3
 have HW3 : Shh (Row w3 N 62 (pc (F 256 1)) ∧ Row w3 (N + 1) 62 (pc fun _ => 0) ∧ Below N w w3) := ⟨r3, b3.row HW2.out.2.1 HW2.out.2.1.lt (by omega), HW2.out.2.2.trans (b3.under (Nat.le_of_lt HW2.out.1.lt) (by omega))⟩
 clear r3 b3 z3 HW2
 go_wp2_with (go_at_call 77; refine (HRT.out _).mono ?_)
 rintro e w4 ⟨rfl, b4⟩
 generalize hG : w4.heap.size = G
 have HW4 : Shh (Row w4 N 62 (pc (F 256 1)) ∧ Row w4 (N + 1) 62 (pc fun _ => 0) ∧ Below N w w4 ∧ N + 1 < G) := ⟨HW3.out.1.go b4, HW3.out.2.1.go b4, HW3.out.2.2.trans (b4.mono (Nat.le_of_lt HW3.out.1.lt)), by have := (HW3.out.2.1.go b4).lt; omega⟩
 clear b4 HW3 HRT
 have HG0 : Shh (Row (w4.alloc (.cells (uc 128 fun _ => 0).toArray 99)) w4.heap.size 99 (uc 128 fun _ => 0)) := ⟨Row.new_ rfl rfl⟩
 go_wp2_with (first | refine wl_allocR rfl rfl ?_ | refine wpList_store_any rfl 99 (.tmp 3) (.tmp 13) rfl w4.heap.size rfl (uc 128 wN) rfl 99 _ HG0.out (info_roots.trans (size_uc _ _)) (by rw [uc_length, uc_length]) (uc_one _ _) ?_)
 intro w5 r5 b5 z5
 try rw [hG] at r5
 try rw [hG] at b5
 have HW5 : Shh (Row w5 N 62 (pc (F (2 * 128) 1)) ∧ Row w5 (N + 1) 62 (pc fun _ => 0) ∧ Row w5 G 99 (uc 128 wN) ∧ Below N w w5 ∧ N + 1 < G) := ⟨b5.row (HW4.out.1.alloc _) (by have := HW4.out.2.2.2; omega) (by have := HW4.out.2.2.2; omega), b5.row (HW4.out.2.1.alloc _) (by have := HW4.out.2.2.2; omega) (by have := HW4.out.2.2.2; omega), r5, (HW4.out.2.2.1.alloc (Nat.le_of_lt HW4.out.1.lt) _).trans (b5.under (by have := HW4.out.2.2.2; omega) (by have := HW4.out.2.2.2; omega)), HW4.out.2.2.2⟩
 clear r5 b5 z5 HW4 HG0 hG
 go_wp2
 go_loopw [4] (fun b wr => ∃ J H : Nat, Shh (isLay J H) ∧ b = .int .i64 (J : Int) ∧ Shh (Row wr N 62 (pc (F (2 * H) J)) ∧ Row wr (N + 1) 62 (pc fun _ => 0) ∧ Row wr G 99 (uc 128 wN) ∧ Below N w wr ∧ N + 1 < G)) (fun b _ => 128 - (intOf b).toNat)
 case atStart => exact ⟨1, 128, ⟨Or.inl ⟨rfl, rfl⟩⟩, rfl, HW5⟩
 case round =>
  clear HW5
  obtain ⟨J, H, HJ, rfl, HI⟩ := hrel
  by_cases hlt : J < 128
  ·have hlt2 : (J : Int) < 128 := by omega
   have HH := Shh.mk (HJ.out.half hlt)
   have hJ0 : 0 < J := by have := HH.out.2.1; omega
   go_wp2_with (refine wl_at 19 rfl (.int .i64 (H : Int)) rfl (quo_ii (i := 128) (j := J) HH.out.2.2.2.1 hJ0 (by decide) rfl rfl rfl) ?_)
   go_loopw [21] (fun c wr2 => ∃ k : Nat, k ≤ J ∧ c = .int .i64 (k : Int) ∧ Shh (Row wr2 N 62 (pc (midN H k 0 (F H (2 * J)) (F (2 * H) J))) ∧ Row wr2 (N + 1) 62 (pc fun _ => 0) ∧ Row wr2 G 99 (uc 128 wN) ∧ Below N w wr2 ∧ N + 1 < G)) (fun c _ => J - (intOf c).toNat)
   case atStart => exact ⟨0, Nat.zero_le _, rfl, ⟨by rw [mid_start]; exact HI.out⟩⟩
   case round =>
    clear HI
    obtain ⟨k, hk, rfl, HI⟩ := hrel
    by_cases hkt : k < J
    ·have hkt2 : (k : Int) < (J : Int) := by omega
     obtain ⟨A, HA⟩ : ∃ A, Shh (A = 2 * H) := ⟨_, ⟨rfl⟩⟩
     obtain ⟨X0, HX0⟩ : ∃ X, Shh (X = A * k) := ⟨_, ⟨rfl⟩⟩
     have HPL : Shh (∀ j, j < H → X0 + j + H < 256 ∧ X0 = 2 * H * k) := ⟨fun j hj => by have := place_lt HH.out.2.2.2.2.1 hkt hj; rw [HX0.out, HA.out]; omega⟩
     have HX1 : Shh (X0 + H ≤ 256 ∧ A ≤ 1000000 ∧ X0 ≤ 1000000) := by
      have h1 := HPL.out 0 (by have := HH.out; omega)
      have h2 := HA.out
      have h3 := HH.out.2.2.2.2.2.1
      exact ⟨by omega⟩
     have V1 := Shh.mk (show A ≤ 1000000000000 by have := HX1.out; omega)
     have V2 := Shh.mk (show X0 ≤ 1000000000000 by have := HX1.out; omega)
     obtain ⟨E, HE⟩ : ∃ E, Shh (E = X0 + H ∧ E ≤ 1000000000000) := ⟨_, ⟨rfl, by have := HX1.out; omega⟩⟩
     go_wp2_with (first | refine wl_at 25 rfl (.int .i64 (A : Int)) rfl (mul_iin (i := 2) (j := H) HA.out V1.out rfl rfl rfl) ?_ | refine wl_at 27 rfl (.int .i64 (X0 : Int)) rfl (mul_iin (i := A) (j := k) HX0.out V2.out rfl rfl rfl) ?_)
     go_loopw [8] (fun i wr3 => ∃ j x : Nat, j ≤ H ∧ Shh (x = X0 + j) ∧ i = .int .i64 (x : Int) ∧ Shh (Row wr3 N 62 (pc (midN H k j (F H (2 * J)) (F (2 * H) J))) ∧ Row wr3 (N + 1) 62 (pc fun _ => 0) ∧ Row wr3 G 99 (uc 128 wN) ∧ Below N w wr3 ∧ N + 1 < G)) (fun i _ => X0 + H - (intOf i).toNat)
     case atStart => exact ⟨0, X0, Nat.zero_le _, ⟨rfl⟩, rfl, HI⟩
     case round =>
      clear HI
      obtain ⟨j, x, hj, Hx, rfl, HI⟩ := hrel
      by_cases hjt : j < H
      ·have hjt2 : (x : Int) < (E : Int) := by have := Hx.out; have := HE.out; omega
       have HPX := Shh.mk (HPL.out j hjt)
       obtain ⟨y, Hy⟩ : ∃ y, Shh (y = x + H ∧ y ≤ 1000000000000) := ⟨_, ⟨rfl, by have := Hx.out; have := HPX.out; omega⟩⟩
       obtain ⟨t, Ht⟩ : ∃ t, Shh (t = J + k ∧ t ≤ 1000000000000) := ⟨_, ⟨rfl, by have := HH.out; omega⟩⟩
       obtain ⟨x1, Hx1⟩ : ∃ x1, Shh (x1 = x + 1 ∧ x1 ≤ 1000000000000) := ⟨_, ⟨rfl, by have := Hx.out; have := HPX.out; omega⟩⟩
       have hx : x < 256 := by have := Hx.out; have := HPX.out; omega
       have hy : y < 256 := by have := Hx.out; have := HPX.out; have := Hy.out; omega
       have ht : t < 128 := by have := HH.out; have := Ht.out; omega
       have ex : x = 2 * H * k + j := by have := Hx.out; have := HPX.out; omega
       have ey : y = 2 * H * k + j + H := by have := Hy.out; omega
       have HST := HS.out H J k j HH.out.2.1 HH.out.2.2.1 hkt hjt
       have HM2 := Shh.mk (mid_two H k j HH.out.1 hjt (F H (2 * J)) (F (2 * H) J))
       have HML := mid_lo H k j hjt (F H (2 * J)) (F (2 * H) J)
       have HMH := mid_hi H k j hjt (F H (2 * J)) (F (2 * H) J)
       rw [← ey, ← ex, ← Ht.out.1] at HST
       rw [← ey, ← ex] at HM2
       rw [← ex] at HML
       rw [← ey] at HMH
       have c1 := HI.out.1.drew.cell x
       rw [pc_get _ hx, HML] at c1
       have c3 := HI.out.1.drew.cell y
       rw [pc_get _ hy, HMH] at c3
       have c2 := HI.out.2.2.1.drew.cell t
       rw [uc_get _ ht] at c2
       have B1 := HB.out (2 * H) J x
       have B3 := HB.out (2 * H) J y
       have B2 := wN_lt t
       clear HML HMH ex ey
       generalize F H (2 * J) x = s1 at *
       generalize F H (2 * J) y = s2 at *
       generalize F (2 * H) J x = a1 at *
       generalize F (2 * H) J y = a3 at *
       generalize wN t = a2 at *
       obtain ⟨m, Hm⟩ : ∃ m, Shh (m = a2 * a3 % 3329) := ⟨_, ⟨rfl⟩⟩
       rw [← Hm.out] at HST
       have Bm : m < 3329 := by rw [Hm.out]; exact Nat.mod_lt _ (by decide)
       have C1 : Shh (∀ W, Calls Tryd.prog 78 #[.int .u16 (a2 : Int), .int .u16 (a3 : Int)] W (U16Is W m)) := ⟨fun W => by rw [Hm.out]; exact product_any a2 a3 ⟨by omega, by omega⟩ W⟩
       have C2 : Shh (∀ W, Calls Tryd.prog 64 #[.int .u16 (a1 : Int), .int .u16 (m : Int)] W (U16Is W s1)) := ⟨fun W => by rw [HST.1]; exact sum_any a1 m (by omega) W⟩
       have C3 : Shh (∀ W, Calls Tryd.prog 79 #[.int .u16 (a1 : Int), .int .u16 (m : Int)] W (U16Is W s2)) := ⟨fun W => by rw [HST.2]; exact difference_any a1 m ⟨by omega, by omega⟩ W⟩
       have HC := Shh.mk (And.intro c1 (And.intro c2 c3))
       clear c1 c2 c3 HST B1 B2 B3 Bm Hm HPX
       go_wp2_with (refine wl_at 32 rfl (.int .i64 (E : Int)) rfl (add_ii (i := X0) (j := H) HE.out rfl rfl rfl) ?_)
       refine wp_region_held_drew (S := fun w' => w'.cell? ⟨N, x, none⟩ = some (.int .u16 (a1 : Int)) ∧ w'.cell? ⟨G, t, none⟩ = some (.int .u16 (a2 : Int)) ∧ w'.cell? ⟨N, y, none⟩ = some (.int .u16 (a3 : Int))) (by kernel_rfl) HC.out (fun hS => ?_)
       clear hS
       obtain ⟨V, hV⟩ : ∃ V, V = World.drew wr := ⟨_, rfl⟩
       rw [← hV] at HC ⊢
       have HIV : Shh (Row V N 62 (pc (midN H k j (F H (2 * J)) (F (2 * H) J))) ∧ Row V (N + 1) 62 (pc fun _ => 0) ∧ Row V G 99 (uc 128 wN) ∧ Below N w V ∧ N + 1 < G) := by rw [hV]; exact ⟨HI.out.1.drew, HI.out.2.1.drew, HI.out.2.2.1.drew, HI.out.2.2.2.1.drew, HI.out.2.2.2.2⟩
       clear HI hV
       refine hdv0 0 36 (.int .i64 (x : Int)) (by rfl) (HC.out) ?_
       refine hdv 1 37 (.pointer (some ⟨N, x, none⟩)) (by rfl) (fun w hS => at_poly hx rfl (by kernel_rfl) (by kernel_rfl)) (HC.out) ?_
       refine hdv 2 38 (.int .u16 (a1 : Int)) (by rfl) (fun w hS => load_u16 rfl hS.1 (by kernel_rfl)) (HC.out) ?_
       refine hdv0 3 39 (.int .i64 (J : Int)) (by rfl) (HC.out) ?_
       refine hdv0 4 40 (.int .i64 (k : Int)) (by rfl) (HC.out) ?_
       refine hdv 5 41 (.int .i64 (t : Int)) (by rfl) (fun w hS => add_ii (i := J) (j := k) Ht.out rfl (by kernel_rfl) (by kernel_rfl)) (HC.out) ?_
       refine hdv 6 42 (.pointer (some ⟨G, t, none⟩)) (by rfl) (fun w hS => at_roots ht rfl (by kernel_rfl) (by kernel_rfl)) (HC.out) ?_
       refine hdv 7 43 (.int .u16 (a2 : Int)) (by rfl) (fun w hS => load_u16 rfl hS.2.1 (by kernel_rfl)) (HC.out) ?_
       refine hdv0 8 44 (.int .i64 (x : Int)) (by rfl) (HC.out) ?_
       refine hdv0 9 45 (.int .i64 (H : Int)) (by rfl) (HC.out) ?_
       refine hdv 10 46 (.int .i64 (y : Int)) (by rfl) (fun w hS => add_ii (i := x) (j := H) Hy.out rfl (by kernel_rfl) (by kernel_rfl)) (HC.out) ?_
       refine hdv 11 47 (.pointer (some ⟨N, y, none⟩)) (by rfl) (fun w hS => at_poly hy rfl (by kernel_rfl) (by kernel_rfl)) (HC.out) ?_
       refine hdv 12 48 (.int .u16 (a3 : Int)) (by rfl) (fun w hS => load_u16 rfl hS.2.2 (by kernel_rfl)) (HC.out) ?_
       refine held_one 13 (by kernel_rfl) ?_
       refine step_call 13 _ _ (some 49) 78 #[.int .u16 (a2 : Int), .int .u16 (a3 : Int)] (by rfl) (by kernel_rfl) (by first | kernel_rfl | go_simp) ?_
       refine (C1.out V).mono ?_
       rintro e Y1 ⟨rfl, hq⟩
       obtain rfl : V = Y1 := hq
       refine ⟨_, rfl, HC.out, ?_⟩
       simp only [Act.put, arr9, hd9, tl9]
       refine hdv0 14 9 (.int .u16 (a1 : Int)) (by rfl) (HC.out) ?_
       refine hdv0 15 10 (.int .u16 (m : Int)) (by rfl) (HC.out) ?_
       refine wpAnyH_done (by kernel_rfl) ?_ _
       go_wp2
       refine wp_region_held_drew (S := fun _ => True) (by kernel_rfl) trivial (fun hS => ?_)
       clear hS HC
       obtain ⟨U, hU⟩ : ∃ U, U = World.drew V := ⟨_, rfl⟩
       rw [← hU]
       have HIU : Shh (Row U N 62 (pc (midN H k j (F H (2 * J)) (F (2 * H) J))) ∧ Row U (N + 1) 62 (pc fun _ => 0) ∧ Row U G 99 (uc 128 wN) ∧ Below N w U ∧ N + 1 < G) := by rw [hU]; exact ⟨HIV.out.1.drew, HIV.out.2.1.drew, HIV.out.2.2.1.drew, HIV.out.2.2.2.1.drew, HIV.out.2.2.2.2⟩
       clear HIV hU
       refine hdv0 0 50 (.int .i64 (x : Int)) (by rfl) (trivial) ?_
       refine hdv0 1 51 (.int .i64 (x : Int)) (by rfl) (trivial) ?_
       refine hdv0 2 52 (.int .i64 (H : Int)) (by rfl) (trivial) ?_
       refine hdv 3 53 (.int .i64 (y : Int)) (by rfl) (fun w hS => add_ii (i := x) (j := H) Hy.out rfl (by kernel_rfl) (by kernel_rfl)) (trivial) ?_
       refine hdv0 4 54 (.int .u16 (a1 : Int)) (by rfl) (trivial) ?_
       refine hdv0 5 55 (.int .u16 (m : Int)) (by rfl) (trivial) ?_
       refine hdv0 7 57 (.int .u16 (a1 : Int)) (by rfl) (trivial) ?_
       refine hdv0 8 58 (.int .u16 (m : Int)) (by rfl) (trivial) ?_
       refine held_one 6 (by kernel_rfl) ?_
       refine step_call 6 _ _ (some 56) 64 #[.int .u16 (a1 : Int), .int .u16 (m : Int)] (by rfl) (by kernel_rfl) (by first | kernel_rfl | go_simp) ?_
       refine (C2.out U).mono ?_
       rintro e Y1 ⟨rfl, hq⟩
       obtain rfl : U = Y1 := hq
       refine ⟨_, rfl, trivial, ?_⟩
       simp only [Act.put, arr9, hd9, tl9]
       refine hdv 10 60 (.pointer (some ⟨N, x, none⟩)) (by rfl) (fun w hS => at_poly hx rfl (by kernel_rfl) (by kernel_rfl)) (trivial) ?_
       refine held_one 9 (by kernel_rfl) ?_
       refine step_call 9 _ _ (some 59) 79 #[.int .u16 (a1 : Int), .int .u16 (m : Int)] (by rfl) (by kernel_rfl) (by first | kernel_rfl | go_simp) ?_
       refine (C3.out U).mono ?_
       rintro e Y2 ⟨rfl, hq⟩
       obtain rfl : U = Y2 := hq
       refine ⟨_, rfl, trivial, ?_⟩
       simp only [Act.put, arr9, hd9, tl9]
       refine held_one 11 (by kernel_rfl) ?_
       refine step_storeP 11 (v := s1) (by rfl) (by kernel_rfl) hx HIU.out.1 (by kernel_rfl) (by kernel_rfl) ?_
       intro Y3 r6 b6 z6
       have HI6 : Shh (Row Y3 N 62 (pc (upd (midN H k j (F H (2 * J)) (F (2 * H) J)) x s1)) ∧ Row Y3 (N + 1) 62 (pc fun _ => 0) ∧ Row Y3 G 99 (uc 128 wN) ∧ Below N w Y3 ∧ N + 1 < G) := ⟨r6, b6.row HIU.out.2.1 HIU.out.2.1.lt (by omega), b6.row HIU.out.2.2.1 HIU.out.2.2.1.lt (by have := HIU.out.2.2.2.2; omega), HIU.out.2.2.2.1.trans (b6.under (Nat.le_of_lt HIU.out.1.lt) (by omega)), HIU.out.2.2.2.2⟩
       clear r6 b6 z6 HIU
       refine ⟨trivial, ?_⟩
       refine hdv 12 61 (.pointer (some ⟨N, y, none⟩)) (by rfl) (fun w hS => at_poly hy rfl (by kernel_rfl) (by kernel_rfl)) (trivial) ?_
       refine held_one 13 (by kernel_rfl) ?_
       refine step_storeP 13 (v := s2) (by rfl) (by kernel_rfl) hy HI6.out.1 (by kernel_rfl) (by kernel_rfl) ?_
       intro Y4 r7 b7 z7
       rw [HM2.out] at r7
       have HI7 : Shh (Row Y4 N 62 (pc (midN H k (j + 1) (F H (2 * J)) (F (2 * H) J))) ∧ Row Y4 (N + 1) 62 (pc fun _ => 0) ∧ Row Y4 G 99 (uc 128 wN) ∧ Below N w Y4 ∧ N + 1 < G) := ⟨r7, b7.row HI6.out.2.1 HI6.out.2.1.lt (by omega), b7.row HI6.out.2.2.1 HI6.out.2.2.1.lt (by have := HI6.out.2.2.2.2; omega), HI6.out.2.2.2.1.trans (b7.under (Nat.le_of_lt HI6.out.1.lt) (by omega)), HI6.out.2.2.2.2⟩
       clear r7 b7 z7 HI6
       refine ⟨trivial, ?_⟩
       refine wpAnyH_done (by kernel_rfl) ?_ _
       go_wp2_with (refine wl_at 35 rfl (.int .i64 (x1 : Int)) rfl (add_ii (i := x) (j := 1) Hx1.out rfl rfl rfl) ?_)
       go_roundw
       case rel => exact ⟨j + 1, x1, by omega, ⟨by have := Hx.out; have := Hx1.out; omega⟩, rfl, HI7⟩
       case measure => (have := Hx.out; have := Hx1.out; simp [intOf]; omega)
      ·have hjt2 : ¬ (x : Int) < (E : Int) := by have := Hx.out; have := HE.out; omega
       have HMN : Shh (pc (midN H k j (F H (2 * J)) (F (2 * H) J)) = pc (midN H (k + 1) 0 (F H (2 * J)) (F (2 * H) J))) := ⟨by rw [show j = H by omega]; exact mid_next H k HH.out.1 _ _⟩
       rw [HMN.out] at HI
       go_wp2_with (refine wl_at 32 rfl (.int .i64 (E : Int)) rfl (add_ii (i := X0) (j := H) HE.out rfl rfl rfl) ?_)
       go_roundw
       case rel => exact ⟨k + 1, by omega, by go_num, HI⟩
       case measure => simp [intOf]; omega
    ·have hkt2 : ¬ (k : Int) < (J : Int) := by omega
     have HME : Shh (pc (midN H k 0 (F H (2 * J)) (F (2 * H) J)) = pc (F (2 * (H / 2)) (2 * J))) := ⟨by rw [show k = J by omega, mid_end H J HH.out.1 HH.out.2.2.2.2.1, HH.out.2.2.2.2.2.2.2.2]⟩
     rw [HME.out] at HI
     obtain ⟨J2, HJ2⟩ : ∃ J2, Shh (J2 = J * 2 ∧ J2 ≤ 1000000000000) := ⟨_, ⟨rfl, by have := HH.out; omega⟩⟩
     go_wp2_with (refine wl_at 17 rfl (.int .i64 (J2 : Int)) rfl (mul_iin (i := J) (j := 2) HJ2.out.1 HJ2.out.2 rfl rfl rfl) ?_)
     go_roundw
     case rel => exact ⟨2 * J, H / 2, ⟨HH.out.2.2.2.2.2.2.2.1⟩, by rw [HJ2.out.1, Nat.mul_comm], HI⟩
     case measure => (have := HJ2.out; simp [intOf]; omega)
  ·have hlt2 : ¬ (J : Int) < 128 := by omega
   have HI2 : Shh (Row wr N 62 (pc fin) ∧ Row wr (N + 1) 62 (pc fun _ => 0) ∧ Row wr G 99 (uc 128 wN) ∧ Below N w wr ∧ N + 1 < G) := ⟨by
    have h := HI.out
    obtain ⟨e1, e2⟩ := HJ.out.last hlt
    rw [e1, e2, show 2 * 1 = 2 from rfl, HLA.out] at h
    exact h⟩
   clear HI HLA HS HB
   go_wp2_with (first
    | refine wpList_load_any rfl 62 (.tmp 1) rfl N rfl 62 (pc fin) (.array 256 39) HI2.out.1 Tryd.underlying62 rfl (info_poly.trans (size_poly fin)) ?_
    | refine wpList_store_any rfl 62 (.tmp 2) (.tmp 63) rfl (N + 1) rfl (pc fin) rfl 62 _ HI2.out.2.1 (info_poly.trans (size_poly fin)) (by rw [pc_length, pc_length]) (pc_one fin) ?_)
   intro w9 hr9 b9 _
   have hb9 := HI2.out.2.2.2.1.trans (b9.under (Nat.le_of_lt HI2.out.1.lt) (Nat.le_succ _))
   go_wp2
   exact ret_row Tryd.results62 rfl rfl hr9 Tryd.underlying62 rfl (info_poly.trans (size_poly fin)) ⟨rfl, hb9⟩
end Go.Proofs.YtbjpbeplpljieaaDoor

/-
 THE PROGRAM'S OWN Inv.
-/
namespace Go.Proofs.YtbjpbeplpljieaaDoor
open Go.RowKit
set_option maxRecDepth 100000
theorem isLay.exp {J H : Nat} (h : isLay J H) (hJ : J < 128) : 2 * (128 / (2 * J)) = 128 / J ∧ (J = 1 ∨ J = 2 ∨ J = 4 ∨ J = 8 ∨ J = 16 ∨ J = 32 ∨ J = 64) := by
 unfold isLay at h
 rcases h with ⟨rfl, rfl⟩ | ⟨rfl, rfl⟩ | ⟨rfl, rfl⟩ | ⟨rfl, rfl⟩ | ⟨rfl, rfl⟩ | ⟨rfl, rfl⟩ | ⟨rfl, rfl⟩ | ⟨rfl, rfl⟩ <;> omega
theorem isLay.back {J H : Nat} (h : isLay J H) (hJ : J < 128) : J = 1 ∧ H = 128 ∨ 1 ≤ J / 2 ∧ isLay (J / 2) (2 * H) ∧ J / 2 < 128 ∧ 2 * (J / 2) = J := by
 unfold isLay at *
 rcases h with ⟨rfl, rfl⟩ | ⟨rfl, rfl⟩ | ⟨rfl, rfl⟩ | ⟨rfl, rfl⟩ | ⟨rfl, rfl⟩ | ⟨rfl, rfl⟩ | ⟨rfl, rfl⟩ | ⟨rfl, rfl⟩ <;> first | omega | simp
set_option maxHeartbeats 2000000 in
theorem Inv_any (p : Nat → Nat) (hp : ∀ i, i < 256 → p i < 65536) (w : World) : Calls Tryd.prog 51 #[polyV p] w (PolyIs w (invN p)) := by
 unfold PolyIs polyV
 generalize hN : w.heap.size = N at *
 have HRT : Shh (∀ W, Calls Tryd.prog 77 #[] W (RootsIs W)) := ⟨fun W => roots_any W⟩
 obtain ⟨F, HRD, HLA, HS, HB⟩ : ∃ F : Nat → Nat → Nat → Nat, Shh (∀ W, Calls Tryd.prog 76 #[.agg (pc p).toArray] W (PolyIs W (F 2 128))) ∧ Shh (∀ i, i < 256 → F 256 1 i * 3303 % 3329 = invN p i) ∧ Shh (∀ H J k j, isLay J H → J < 128 → k < J → j < H → F (2 * H) J (2 * H * k + j) = (F H (2 * J) (2 * H * k + j) + F H (2 * J) (2 * H * k + j + H)) % 3329 ∧ F (2 * H) J (2 * H * k + j + H) = wN (2 * J - 1 - k) * ((F H (2 * J) (2 * H * k + j + H) + 3329 - F H (2 * J) (2 * H * k + j)) % 3329) % 3329) ∧ Shh (∀ L J i, F L J i < 3329) := by
  refine ⟨fun L J => layN (128 / J) L J (invN p), ⟨fun W => ?_⟩, ⟨fun i hi => ?_⟩, ⟨fun H J k j h1 h2 h3 h4 => ?_⟩, ⟨fun L J i => layN_lt _ L J _ i⟩⟩
  ·unfold PolyIs polyV
   rw [show pc ((fun L J => layN (128 / J) L J (invN p)) 2 128) = pc (redN p) from pc_of fun i hi => layB_start p i hi]
   exact Reduce_any p hp W
  ·exact (layB_end (invN p) i hi).trans (inv_red p i)
  ·obtain ⟨e1, e2⟩ := h1.exp h2
   have h5 := h1.half h2
   have l1 := layB_lo (128 / (2 * J)) H J k j h5.2.1 h5.2.2.1 h3 h4 (invN p)
   have l2 := layB_hi (128 / (2 * J)) H J k j e2 h3 h4 (invN p)
   rw [e1] at l1 l2
   exact ⟨l1, l2⟩
 generalize invN p = fin at *
 clear hp
 have HL0 : Shh (Row ((w.alloc (.cells (pc p).toArray 62)).alloc (.cells (pc fun _ => 0).toArray 62)) N 62 (pc p) ∧ Row ((w.alloc (.cells (pc p).toArray 62)).alloc (.cells (pc fun _ => 0).toArray 62)) (N + 1) 62 (pc fun _ => 0) ∧ Below N w ((w.alloc (.cells (pc p).toArray 62)).alloc (.cells (pc fun _ => 0).toArray 62))) := by
  refine ⟨(Row.new_ hN.symm rfl).alloc _, Row.new_ (by rw [asz, hN]) rfl, ?_⟩
  rw [← hN]
  exact Below.chain (bel1 _ _) (bel1 _ _)
 go_enter Tryd.func51, Tryd.ntmps51
 go_wp2_with (first | refine wl_allocP rfl rfl ?_ | refine wpList_load_any rfl 62 (.tmp 1) rfl N rfl 62 (pc p) (.array 256 39) HL0.out.1 Tryd.underlying62 rfl (info_poly.trans (size_poly p)) ?_ | (go_at_call 76; refine (HRD.out _).mono ?_))
 rintro e w2 ⟨rfl, b2⟩
 have HW2 : Shh (Row w2 N 62 (pc p) ∧ Row w2 (N + 1) 62 (pc fun _ => 0) ∧ Below N w w2) := ⟨HL0.out.1.go b2, HL0.out.2.1.go b2, HL0.out.2.2.trans (b2.mono (by have := HL0.out.1.lt; omega))⟩
 clear b2 HL0 HRD
 go_wp2_with (refine wpList_store_any rfl 62 (.tmp 1) (.tmp 14) rfl N rfl (pc (F 2 128)) rfl 62 _ HW2.out.1 (info_poly.trans (size_poly _)) (by rw [pc_length, pc_length]) (pc_one _) ?_)
 intro w3 r3 b3 z3
 have HW3 : Shh (Row w3 N 62 (pc (F 2 128)) ∧ Row w3 (N + 1) 62 (pc fun _ => 0) ∧ Below N w w3) := ⟨r3, b3.row HW2.out.2.1 HW2.out.2.1.lt (by omega), HW2.out.2.2.trans (b3.under (Nat.le_of_lt HW2.out.1.lt) (by omega))⟩
 clear r3 b3 z3 HW2
 go_wp2_with (go_at_call 77; refine (HRT.out _).mono ?_)
 rintro e w4 ⟨rfl, b4⟩
 generalize hG : w4.heap.size = G
 have HW4 : Shh (Row w4 N 62 (pc (F 2 128)) ∧ Row w4 (N + 1) 62 (pc fun _ => 0) ∧ Below N w w4 ∧ N + 1 < G) := ⟨HW3.out.1.go b4, HW3.out.2.1.go b4, HW3.out.2.2.trans (b4.mono (Nat.le_of_lt HW3.out.1.lt)), by have := (HW3.out.2.1.go b4).lt; omega⟩
 clear b4 HW3 HRT
 have HG0 : Shh (Row (w4.alloc (.cells (uc 128 fun _ => 0).toArray 99)) w4.heap.size 99 (uc 128 fun _ => 0)) := ⟨Row.new_ rfl rfl⟩
 go_wp2_with (first | refine wl_allocR rfl rfl ?_ | refine wpList_store_any rfl 99 (.tmp 3) (.tmp 15) rfl w4.heap.size rfl (uc 128 wN) rfl 99 _ HG0.out (info_roots.trans (size_uc _ _)) (by rw [uc_length, uc_length]) (uc_one _ _) ?_)
 intro w5 r5 b5 z5
 try rw [hG] at r5
 try rw [hG] at b5
 have HW5 : Shh (Row w5 N 62 (pc (F 2 128)) ∧ Row w5 (N + 1) 62 (pc fun _ => 0) ∧ Row w5 G 99 (uc 128 wN) ∧ Below N w w5 ∧ N + 1 < G) := ⟨b5.row (HW4.out.1.alloc _) (by have := HW4.out.2.2.2; omega) (by have := HW4.out.2.2.2; omega), b5.row (HW4.out.2.1.alloc _) (by have := HW4.out.2.2.2; omega) (by have := HW4.out.2.2.2; omega), r5, (HW4.out.2.2.1.alloc (Nat.le_of_lt HW4.out.1.lt) _).trans (b5.under (by have := HW4.out.2.2.2; omega) (by have := HW4.out.2.2.2; omega)), HW4.out.2.2.2⟩
 clear r5 b5 z5 HW4 HG0 hG
 go_wp2
 go_loopw [4] (fun b wr => ∃ (J : Nat) (g : Nat → Nat), Shh (J = 0 ∧ g = F 256 1 ∨ ∃ H, 1 ≤ J ∧ isLay J H ∧ J < 128 ∧ g = F H (2 * J)) ∧ b = .int .i64 (J : Int) ∧ Shh (Row wr N 62 (pc g) ∧ Row wr (N + 1) 62 (pc fun _ => 0) ∧ Row wr G 99 (uc 128 wN) ∧ Below N w wr ∧ N + 1 < G)) (fun b _ => (intOf b).toNat)
 case atStart => exact ⟨64, F 2 128, ⟨Or.inr ⟨2, by decide, by unfold isLay; decide, by decide, rfl⟩⟩, rfl, HW5⟩
 case round =>
  clear HW5
  obtain ⟨J, g, HJ, rfl, HI⟩ := hrel
  by_cases hlt : 1 ≤ J
  ·obtain ⟨H, HJH, hg⟩ : ∃ H, Shh (isLay J H ∧ J < 128) ∧ g = F H (2 * J) := by
    rcases HJ.out with h | ⟨H, h1, h2, h3, h4⟩
    ·omega
    ·exact ⟨H, ⟨h2, h3⟩, h4⟩
   subst hg
   clear HJ
   have hlt2 : (1 : Int) ≤ (J : Int) := by omega
   have HH := Shh.mk (HJH.out.1.half HJH.out.2)
   have hJ0 : 0 < J := by omega
   have hJ8 : J < 128 := HJH.out.2
   go_wp2_with (refine wl_at 21 rfl (.int .i64 (H : Int)) rfl (quo_ii (i := 128) (j := J) HH.out.2.2.2.1 hJ0 (by decide) rfl rfl rfl) ?_)
   go_loopw [23] (fun c wr => ∃ k : Nat, k ≤ J ∧ c = .int .i64 (k : Int) ∧ Shh (Row wr N 62 (pc (midN H k 0 (F (2 * H) J) (F H (2 * J)))) ∧ Row wr (N + 1) 62 (pc fun _ => 0) ∧ Row wr G 99 (uc 128 wN) ∧ Below N w wr ∧ N + 1 < G)) (fun c _ => J - (intOf c).toNat)
   case atStart => exact ⟨0, Nat.zero_le _, rfl, ⟨by rw [mid_start]; exact HI.out⟩⟩
   case round =>
    clear HI
    obtain ⟨k, hk, rfl, HI⟩ := hrel
    by_cases hkt : k < J
    ·have hkt2 : (k : Int) < (J : Int) := by omega
     obtain ⟨A, HA⟩ : ∃ A, Shh (A = 2 * H) := ⟨_, ⟨rfl⟩⟩
     obtain ⟨X0, HX0⟩ : ∃ X, Shh (X = A * k) := ⟨_, ⟨rfl⟩⟩
     have HPL : Shh (∀ j, j < H → X0 + j + H < 256 ∧ X0 = 2 * H * k) := ⟨fun j hj => by have := place_lt HH.out.2.2.2.2.1 hkt hj; rw [HX0.out, HA.out]; omega⟩
     have HX1 : Shh (X0 + H ≤ 256 ∧ A ≤ 1000000 ∧ X0 ≤ 1000000) := by
      have h1 := HPL.out 0 (by have := HH.out; omega)
      have h2 := HA.out
      have h3 := HH.out.2.2.2.2.2.1
      exact ⟨by omega⟩
     have V1 := Shh.mk (show A ≤ 1000000000000 by have := HX1.out; omega)
     have V2 := Shh.mk (show X0 ≤ 1000000000000 by have := HX1.out; omega)
     obtain ⟨E, HE⟩ : ∃ E, Shh (E = X0 + H ∧ E ≤ 1000000000000) := ⟨_, ⟨rfl, by have := HX1.out; omega⟩⟩
     go_wp2_with (first | refine wl_at 27 rfl (.int .i64 (A : Int)) rfl (mul_iin (i := 2) (j := H) HA.out V1.out rfl rfl rfl) ?_ | refine wl_at 29 rfl (.int .i64 (X0 : Int)) rfl (mul_iin (i := A) (j := k) HX0.out V2.out rfl rfl rfl) ?_)
     go_loopw [8] (fun i wr => ∃ j x : Nat, j ≤ H ∧ Shh (x = X0 + j) ∧ i = .int .i64 (x : Int) ∧ Shh (Row wr N 62 (pc (midN H k j (F (2 * H) J) (F H (2 * J)))) ∧ Row wr (N + 1) 62 (pc fun _ => 0) ∧ Row wr G 99 (uc 128 wN) ∧ Below N w wr ∧ N + 1 < G)) (fun i _ => X0 + H - (intOf i).toNat)
     case atStart => exact ⟨0, X0, Nat.zero_le _, ⟨rfl⟩, rfl, HI⟩
     case round =>
      clear HI
      obtain ⟨j, x, hj, Hx, rfl, HI⟩ := hrel
      by_cases hjt : j < H
      ·have hjt2 : (x : Int) < (E : Int) := by have := Hx.out; have := HE.out; omega
       have HPX := Shh.mk (HPL.out j hjt)
       obtain ⟨y, Hy⟩ : ∃ y, Shh (y = x + H ∧ y ≤ 1000000000000) := ⟨_, ⟨rfl, by have := Hx.out; have := HPX.out; omega⟩⟩
       obtain ⟨J2, HJ2⟩ : ∃ J2, Shh (J2 = 2 * J ∧ J2 ≤ 1000000000000) := ⟨_, ⟨rfl, by have := HH.out; omega⟩⟩
       obtain ⟨J3, HJ3⟩ : ∃ J3, Shh (J2 = J3 + 1 ∧ J2 ≤ 1000000000000) := ⟨J2 - 1, ⟨by have := HJ2.out; omega, HJ2.out.2⟩⟩
       obtain ⟨t, Ht⟩ : ∃ t, Shh (J3 = t + k ∧ J3 ≤ 1000000000000) := ⟨J3 - k, ⟨by have := HJ2.out; have := HJ3.out; omega, by have := HJ2.out; have := HJ3.out; omega⟩⟩
       obtain ⟨x1, Hx1⟩ : ∃ x1, Shh (x1 = x + 1 ∧ x1 ≤ 1000000000000) := ⟨_, ⟨rfl, by have := Hx.out; have := HPX.out; omega⟩⟩
       have hx : x < 256 := by have := Hx.out; have := HPX.out; omega
       have hy : y < 256 := by have := Hx.out; have := HPX.out; have := Hy.out; omega
       have et : t = 2 * J - 1 - k := by have := Ht.out; have := HJ2.out; have := HJ3.out; omega
       have ht : t < 128 := by have := HH.out; omega
       have ex : x = 2 * H * k + j := by have := Hx.out; have := HPX.out; omega
       have ey : y = 2 * H * k + j + H := by have := Hy.out; omega
       have HST := HS.out H J k j HJH.out.1 HJH.out.2 hkt hjt
       have HM2 := Shh.mk (mid_two H k j HH.out.1 hjt (F (2 * H) J) (F H (2 * J)))
       have HML := mid_lo H k j hjt (F (2 * H) J) (F H (2 * J))
       have HMH := mid_hi H k j hjt (F (2 * H) J) (F H (2 * J))
       rw [← ey, ← ex, ← et] at HST
       rw [← ey, ← ex] at HM2
       rw [← ex] at HML
       rw [← ey] at HMH
       have c1 := HI.out.1.drew.cell x
       rw [pc_get _ hx, HML] at c1
       have c3 := HI.out.1.drew.cell y
       rw [pc_get _ hy, HMH] at c3
       have c2 : ∀ W, Row W G 99 (uc 128 wN) → W.cell? ⟨G, t, none⟩ = some (.int .u16 (wN t : Int)) := fun W h => by have h2 := h.cell t; rw [uc_get _ ht] at h2; exact h2
       have B1 := HB.out H (2 * J) x
       have B3 := HB.out H (2 * J) y
       have B2 := wN_lt t
       clear HML HMH ex ey et
       generalize F (2 * H) J x = s1 at *
       generalize F (2 * H) J y = s2 at *
       generalize F H (2 * J) x = a1 at *
       generalize F H (2 * J) y = a3 at *
       generalize hwt : wN t = a2 at HST c2 B2
       clear hwt
       obtain ⟨m, Hm⟩ : ∃ m, Shh (m = (a3 + 3329 - a1) % 3329) := ⟨_, ⟨rfl⟩⟩
       rw [← Hm.out] at HST
       have Bm : m < 3329 := by rw [Hm.out]; exact Nat.mod_lt _ (by decide)
       have C1 : Shh (∀ W, Calls Tryd.prog 64 #[.int .u16 (a1 : Int), .int .u16 (a3 : Int)] W (U16Is W s1)) := ⟨fun W => by rw [HST.1]; exact sum_any a1 a3 (by omega) W⟩
       have C2 : Shh (∀ W, Calls Tryd.prog 79 #[.int .u16 (a3 : Int), .int .u16 (a1 : Int)] W (U16Is W m)) := ⟨fun W => by rw [Hm.out]; exact difference_any a3 a1 ⟨by omega, by omega⟩ W⟩
       have C3 : Shh (∀ W, Calls Tryd.prog 78 #[.int .u16 (a2 : Int), .int .u16 (m : Int)] W (U16Is W s2)) := ⟨fun W => by rw [HST.2]; exact product_any a2 m ⟨by omega, by omega⟩ W⟩
       have HC := Shh.mk (And.intro c1 c3)
       have HC2 := Shh.mk c2
       clear c1 c2 c3 HST B1 B2 B3 Bm Hm HPX
       go_wp2_with (refine wl_at 34 rfl (.int .i64 (E : Int)) rfl (add_ii (i := X0) (j := H) HE.out rfl rfl rfl) ?_)
       refine wp_region_held_drew (S := fun w' => w'.cell? ⟨N, x, none⟩ = some (.int .u16 (a1 : Int)) ∧ w'.cell? ⟨N, y, none⟩ = some (.int .u16 (a3 : Int))) (by kernel_rfl) HC.out (fun hS => ?_)
       clear hS
       obtain ⟨V, hV⟩ : ∃ V, V = World.drew wr := ⟨_, rfl⟩
       rw [← hV] at HC ⊢
       have HIV : Shh (Row V N 62 (pc (midN H k j (F (2 * H) J) (F H (2 * J)))) ∧ Row V (N + 1) 62 (pc fun _ => 0) ∧ Row V G 99 (uc 128 wN) ∧ Below N w V ∧ N + 1 < G) := by rw [hV]; exact ⟨HI.out.1.drew, HI.out.2.1.drew, HI.out.2.2.1.drew, HI.out.2.2.2.1.drew, HI.out.2.2.2.2⟩
       clear HI hV
       refine hdv0 0 38 (.int .i64 (x : Int)) (by rfl) (HC.out) ?_
       refine hdv 1 39 (.pointer (some ⟨N, x, none⟩)) (by rfl) (fun w hS => at_poly hx rfl (by kernel_rfl) (by kernel_rfl)) (HC.out) ?_
       refine hdv 2 40 (.int .u16 (a1 : Int)) (by rfl) (fun w hS => load_u16 rfl hS.1 (by kernel_rfl)) (HC.out) ?_
       refine hdv0 3 41 (.int .i64 (x : Int)) (by rfl) (HC.out) ?_
       refine hdv0 4 42 (.int .i64 (H : Int)) (by rfl) (HC.out) ?_
       refine hdv 5 43 (.int .i64 (y : Int)) (by rfl) (fun w hS => add_ii (i := x) (j := H) Hy.out rfl (by kernel_rfl) (by kernel_rfl)) (HC.out) ?_
       refine hdv 6 44 (.pointer (some ⟨N, y, none⟩)) (by rfl) (fun w hS => at_poly hy rfl (by kernel_rfl) (by kernel_rfl)) (HC.out) ?_
       refine hdv 7 45 (.int .u16 (a3 : Int)) (by rfl) (fun w hS => load_u16 rfl hS.2 (by kernel_rfl)) (HC.out) ?_
       refine hdv0 8 9 (.int .u16 (a1 : Int)) (by rfl) (HC.out) ?_
       refine hdv0 9 10 (.int .u16 (a3 : Int)) (by rfl) (HC.out) ?_
       refine wpAnyH_done (by kernel_rfl) ?_ _
       go_wp2
       have HCG := Shh.mk (HC2.out _ HIV.out.2.2.1.drew)
       refine wp_region_held_drew (S := fun w' => w'.cell? ⟨G, t, none⟩ = some (.int .u16 (a2 : Int))) (by kernel_rfl) HCG.out (fun hS => ?_)
       clear hS HC
       obtain ⟨U, hU⟩ : ∃ U, U = World.drew V := ⟨_, rfl⟩
       rw [← hU] at HCG ⊢
       have HIU : Shh (Row U N 62 (pc (midN H k j (F (2 * H) J) (F H (2 * J)))) ∧ Row U (N + 1) 62 (pc fun _ => 0) ∧ Row U G 99 (uc 128 wN) ∧ Below N w U ∧ N + 1 < G) := by rw [hU]; exact ⟨HIV.out.1.drew, HIV.out.2.1.drew, HIV.out.2.2.1.drew, HIV.out.2.2.2.1.drew, HIV.out.2.2.2.2⟩
       clear HIV hU
       refine hdv0 0 46 (.int .i64 (x : Int)) (by rfl) (HCG.out) ?_
       refine hdv0 1 47 (.int .i64 (x : Int)) (by rfl) (HCG.out) ?_
       refine hdv0 2 48 (.int .i64 (H : Int)) (by rfl) (HCG.out) ?_
       refine hdv 3 49 (.int .i64 (y : Int)) (by rfl) (fun w hS => add_ii (i := x) (j := H) Hy.out rfl (by kernel_rfl) (by kernel_rfl)) (HCG.out) ?_
       refine hdv0 4 50 (.int .u16 (a1 : Int)) (by rfl) (HCG.out) ?_
       refine hdv0 5 51 (.int .u16 (a3 : Int)) (by rfl) (HCG.out) ?_
       refine hdv0 7 53 (.int .i64 (J : Int)) (by rfl) (HCG.out) ?_
       refine hdv 8 54 (.int .i64 (J2 : Int)) (by rfl) (fun w hS => mul_iin (i := 2) (j := J) HJ2.out.1 HJ2.out.2 rfl (by kernel_rfl) (by kernel_rfl)) (HCG.out) ?_
       refine hdv 9 55 (.int .i64 (J3 : Int)) (by rfl) (fun w hS => sub_ii (i := J2) (j := 1) HJ3.out rfl (by kernel_rfl) (by kernel_rfl)) (HCG.out) ?_
       refine hdv0 10 56 (.int .i64 (k : Int)) (by rfl) (HCG.out) ?_
       refine hdv 11 57 (.int .i64 (t : Int)) (by rfl) (fun w hS => sub_ii (i := J3) (j := k) Ht.out rfl (by kernel_rfl) (by kernel_rfl)) (HCG.out) ?_
       refine hdv 12 58 (.pointer (some ⟨G, t, none⟩)) (by rfl) (fun w hS => at_roots ht rfl (by kernel_rfl) (by kernel_rfl)) (HCG.out) ?_
       refine hdv 13 59 (.int .u16 (a2 : Int)) (by rfl) (fun w hS => load_u16 rfl hS (by kernel_rfl)) (HCG.out) ?_
       refine hdv0 14 60 (.int .u16 (a3 : Int)) (by rfl) (HCG.out) ?_
       refine hdv0 15 61 (.int .u16 (a1 : Int)) (by rfl) (HCG.out) ?_
       refine held_one 6 (by kernel_rfl) ?_
       refine step_call 6 _ _ (some 52) 64 #[.int .u16 (a1 : Int), .int .u16 (a3 : Int)] (by rfl) (by kernel_rfl) (by first | kernel_rfl | go_simp) ?_
       refine (C1.out U).mono ?_
       rintro e Y1 ⟨rfl, hq⟩
       obtain rfl : U = Y1 := hq
       refine ⟨_, rfl, HCG.out, ?_⟩
       simp only [Act.put, arr9, hd9, tl9]
       refine hdv 18 64 (.pointer (some ⟨N, x, none⟩)) (by rfl) (fun w hS => at_poly hx rfl (by kernel_rfl) (by kernel_rfl)) (HCG.out) ?_
       refine held_one 16 (by kernel_rfl) ?_
       refine step_call 16 _ _ (some 62) 79 #[.int .u16 (a3 : Int), .int .u16 (a1 : Int)] (by rfl) (by kernel_rfl) (by first | kernel_rfl | go_simp) ?_
       refine (C2.out U).mono ?_
       rintro e Y2 ⟨rfl, hq⟩
       obtain rfl : U = Y2 := hq
       refine ⟨_, rfl, HCG.out, ?_⟩
       simp only [Act.put, arr9, hd9, tl9]
       refine held_one 17 (by kernel_rfl) ?_
       refine step_call 17 _ _ (some 63) 78 #[.int .u16 (a2 : Int), .int .u16 (m : Int)] (by rfl) (by kernel_rfl) (by first | kernel_rfl | go_simp) ?_
       refine (C3.out U).mono ?_
       rintro e Y3 ⟨rfl, hq⟩
       obtain rfl : U = Y3 := hq
       refine ⟨_, rfl, HCG.out, ?_⟩
       simp only [Act.put, arr9, hd9, tl9]
       refine held_one 19 (by kernel_rfl) ?_
       refine step_storeP 19 (v := s1) (by rfl) (by kernel_rfl) hx HIU.out.1 (by kernel_rfl) (by kernel_rfl) ?_
       intro Y4 r6 b6 z6
       have HI6 : Shh (Row Y4 N 62 (pc (upd (midN H k j (F (2 * H) J) (F H (2 * J))) x s1)) ∧ Row Y4 (N + 1) 62 (pc fun _ => 0) ∧ Row Y4 G 99 (uc 128 wN) ∧ Below N w Y4 ∧ N + 1 < G) := ⟨r6, b6.row HIU.out.2.1 HIU.out.2.1.lt (by omega), b6.row HIU.out.2.2.1 HIU.out.2.2.1.lt (by have := HIU.out.2.2.2.2; omega), HIU.out.2.2.2.1.trans (b6.under (Nat.le_of_lt HIU.out.1.lt) (by omega)), HIU.out.2.2.2.2⟩
       clear r6 b6 z6 HIU
       replace HCG := Shh.mk (HC2.out _ HI6.out.2.2.1)
       refine ⟨HC2.out _ HI6.out.2.2.1, ?_⟩
       refine hdv 20 65 (.pointer (some ⟨N, y, none⟩)) (by rfl) (fun w hS => at_poly hy rfl (by kernel_rfl) (by kernel_rfl)) (HCG.out) ?_
       refine held_one 21 (by kernel_rfl) ?_
       refine step_storeP 21 (v := s2) (by rfl) (by kernel_rfl) hy HI6.out.1 (by kernel_rfl) (by kernel_rfl) ?_
       intro Y5 r6 b6 z6
       rw [HM2.out] at r6
       have HI7 : Shh (Row Y5 N 62 (pc (midN H k (j + 1) (F (2 * H) J) (F H (2 * J)))) ∧ Row Y5 (N + 1) 62 (pc fun _ => 0) ∧ Row Y5 G 99 (uc 128 wN) ∧ Below N w Y5 ∧ N + 1 < G) := ⟨r6, b6.row HI6.out.2.1 HI6.out.2.1.lt (by omega), b6.row HI6.out.2.2.1 HI6.out.2.2.1.lt (by have := HI6.out.2.2.2.2; omega), HI6.out.2.2.2.1.trans (b6.under (Nat.le_of_lt HI6.out.1.lt) (by omega)), HI6.out.2.2.2.2⟩
       clear r6 b6 z6 HI6
       replace HCG := Shh.mk (HC2.out _ HI7.out.2.2.1)
       refine ⟨HC2.out _ HI7.out.2.2.1, ?_⟩
       refine wpAnyH_done (by kernel_rfl) ?_ _
       go_wp2_with (refine wl_at 37 rfl (.int .i64 (x1 : Int)) rfl (add_ii (i := x) (j := 1) Hx1.out rfl rfl rfl) ?_)
       go_roundw
       case rel => exact ⟨j + 1, x1, by omega, ⟨by have := Hx.out; have := Hx1.out; omega⟩, rfl, HI7⟩
       case measure => (have := Hx.out; have := Hx1.out; simp [intOf]; omega)
      ·have hjt2 : ¬ (x : Int) < (E : Int) := by have := Hx.out; have := HE.out; omega
       have HMN : Shh (pc (midN H k j (F (2 * H) J) (F H (2 * J))) = pc (midN H (k + 1) 0 (F (2 * H) J) (F H (2 * J)))) := ⟨by rw [show j = H by omega]; exact mid_next H k HH.out.1 _ _⟩
       rw [HMN.out] at HI
       go_wp2_with (refine wl_at 34 rfl (.int .i64 (E : Int)) rfl (add_ii (i := X0) (j := H) HE.out rfl rfl rfl) ?_)
       go_roundw
       case rel => exact ⟨k + 1, by omega, by go_num, HI⟩
       case measure => simp [intOf]; omega
    ·have hkt2 : ¬ (k : Int) < (J : Int) := by omega
     have HME : Shh (pc (midN H k 0 (F (2 * H) J) (F H (2 * J))) = pc (F (2 * H) J)) := ⟨by rw [show k = J by omega, mid_end H J HH.out.1 HH.out.2.2.2.2.1]⟩
     rw [HME.out] at HI
     obtain ⟨J2, HJ2⟩ : ∃ J2, Shh (J2 = J / 2 ∧ J ≤ 1000000000000) := ⟨_, ⟨rfl, by have := HH.out; omega⟩⟩
     have HBK := Shh.mk (HJH.out.1.back HJH.out.2)
     go_wp2_with (refine wl_at 19 rfl (.int .i64 (J2 : Int)) rfl (quo_i2 (n := J) HJ2.out.1 HJ2.out.2 rfl rfl) ?_)
     go_roundw
     case rel =>
      refine ⟨J2, F (2 * H) J, ⟨?_⟩, rfl, HI⟩
      rcases HBK.out with ⟨h1, h2⟩ | ⟨h1, h2, h3, h4⟩
      ·exact Or.inl ⟨by rw [HJ2.out.1, h1], by rw [h1, h2]⟩
      ·rw [HJ2.out.1]
       exact Or.inr ⟨2 * H, h1, h2, h3, by rw [h4]⟩
     case measure => (have := HJ2.out; simp [intOf]; omega)
  ·have hlt2 : ¬ (1 : Int) ≤ (J : Int) := by omega
   have hg : g = F 256 1 := by
    rcases HJ.out with h | ⟨H, h1, _⟩
    ·exact h.2
    ·exact absurd h1 hlt
   subst hg
   have HB2 : Shh (∀ i, F 256 1 i < 3329) := ⟨fun i => HB.out 256 1 i⟩
   clear HJ HS HB
   generalize F 256 1 = q at *
   go_wp2_with (refine wpList_load_any rfl 62 (.tmp 1) rfl N rfl 62 (pc q) (.array 256 39) HI.out.1 Tryd.underlying62 rfl (info_poly.trans (size_poly q)) ?_)
   go_loopw [68] (fun i wr => ∃ k : Nat, k ≤ 256 ∧ i = .int .i64 (k : Int) ∧ Shh (Row wr N 62 (pc (half fin q k)) ∧ Row wr (N + 1) 62 (pc fun _ => 0) ∧ Row wr G 99 (uc 128 wN) ∧ Below N w wr ∧ N + 1 < G)) (fun i _ => 256 - (intOf i).toNat)
   case atStart => exact ⟨0, Nat.zero_le _, rfl, ⟨by rw [half_zero]; exact HI.out⟩⟩
   case round =>
    clear HI
    obtain ⟨k, hk, rfl, HI⟩ := hrel
    by_cases hkt : k < 256
    ·have HE := Shh.mk (HLA.out k hkt)
     have HN2 := Shh.mk (half_next fin q k)
     have HG := Shh.mk (pc_get q hkt)
     have B1 := HB2.out k
     generalize fin k = rk at *
     generalize q k = pk at *
     have C1 : Shh (∀ W, Calls Tryd.prog 78 #[.int .u16 (pk : Int), .int .u16 3303] W (U16Is W rk)) := ⟨fun W => by rw [← HE.out]; exact product_any pk 3303 ⟨by omega, by decide⟩ W⟩
     clear B1
     have hlt3 : (k : Int) < 256 := by omega
     go_wp2_with (first | refine wl_at 71 rfl (.int .u16 (pk : Int)) rfl (idx_poly hkt HG.out rfl rfl rfl) ?_ | (go_at_call 78; refine (C1.out _).mono ?_))
     rintro e w2 ⟨rfl, rfl⟩
     go_wp2_with (first | refine wl_at 75 rfl (.pointer (some ⟨N, k, none⟩)) rfl (at_poly hkt rfl rfl rfl) ?_ | refine wl_storeP rfl hkt rfl rfl rfl HI.out.1 ?_)
     intro w3 r3 b3 z3
     rw [HN2.out] at r3
     have HI3 : Shh (Row w3 N 62 (pc (half fin q (k + 1))) ∧ Row w3 (N + 1) 62 (pc fun _ => 0) ∧ Row w3 G 99 (uc 128 wN) ∧ Below N w w3 ∧ N + 1 < G) := ⟨r3, b3.row HI.out.2.1 HI.out.2.1.lt (by omega), b3.row HI.out.2.2.1 HI.out.2.2.1.lt (by have := HI.out.2.2.2.2; omega), HI.out.2.2.2.1.trans (b3.under (Nat.le_of_lt HI.out.1.lt) (by omega)), HI.out.2.2.2.2⟩
     clear r3 b3 z3 HI
     go_wp2
     go_roundw
     case rel => exact ⟨k + 1, by omega, by go_num, HI3⟩
     case measure => simp [intOf]; omega
    ·have HL : Shh (pc (half fin q k) = pc fin) := ⟨by rw [show k = 256 by omega]; exact half_all _ _⟩
     rw [HL.out] at HI
     have hlt3 : ¬ (k : Int) < 256 := by omega
     clear HL HLA HB2
     go_wp2_with (first
      | refine wpList_load_any rfl 62 (.tmp 1) rfl N rfl 62 (pc fin) (.array 256 39) HI.out.1 Tryd.underlying62 rfl (info_poly.trans (size_poly fin)) ?_
      | refine wpList_store_any rfl 62 (.tmp 2) (.tmp 77) rfl (N + 1) rfl (pc fin) rfl 62 _ HI.out.2.1 (info_poly.trans (size_poly fin)) (by rw [pc_length, pc_length]) (pc_one fin) ?_)
     intro w9 hr9 b9 _
     have hb9 := HI.out.2.2.2.1.trans (b9.under (Nat.le_of_lt HI.out.1.lt) (Nat.le_succ _))
     go_wp2
     exact ret_row Tryd.results51 rfl rfl hr9 Tryd.underlying62 rfl (info_poly.trans (size_poly fin)) ⟨rfl, hb9⟩
end Go.Proofs.YtbjpbeplpljieaaDoor

/-
 THE DOCUMENT'S OWN Ntt.
-/
namespace Go.Proofs.YtbjpbeplpljieaaDoor
open Go.RowKit
set_option maxRecDepth 100000
end Go.Proofs.YtbjpbeplpljieaaDoor

/-
 THE DOCUMENT'S OWN MulNtt.
-/
namespace Go.Proofs.YtbjpbeplpljieaaDoor
open Go.RowKit
set_option maxRecDepth 100000
theorem pair_e (p r : Nat → Nat) (k : Nat) : (p (2 * k) % 3329 * (r (2 * k) % 3329) + p (2 * k + 1) % 3329 * (r (2 * k + 1) % 3329) % 3329 * rtN k) % 3329 = pairN p r (2 * k) := by
 unfold pairN
 rw [if_pos (by omega), show 2 * k / 2 = k by omega, ← rd_same]
 refine rd_of ?_
 rw [Int.natCast_add, Int.natCast_mul, Int.natCast_mul]
 refine ((rM_nat _).mul (rM_nat _)).add ?_
 refine ((rM_nat _).mul (rM.of rfl)).trans ?_
 rw [Int.natCast_mul]
 refine (((rM_nat _).mul (rM_nat _)).mul (rM.of rfl)).trans (rM.of (Int.mul_comm _ _))
theorem pair_o (p r : Nat → Nat) (k : Nat) : (p (2 * k) % 3329 * (r (2 * k + 1) % 3329) + p (2 * k + 1) % 3329 * (r (2 * k) % 3329)) % 3329 = pairN p r (2 * k + 1) := by
 unfold pairN
 rw [if_neg (by omega), show (2 * k + 1) / 2 = k by omega, ← rd_same]
 refine rd_of ?_
 rw [Int.natCast_add, Int.natCast_mul, Int.natCast_mul]
 exact ((rM_nat _).mul (rM_nat _)).add ((rM_nat _).mul (rM_nat _))
end Go.Proofs.YtbjpbeplpljieaaDoor

/-
 THE PROGRAM'S OWN MulNtt.
-/
namespace Go.Proofs.YtbjpbeplpljieaaDoor
open Go.RowKit
set_option maxRecDepth 100000
theorem rt_w (k : Nat) : 17 * (wN k * wN k % 3329) % 3329 = rtN k := by
 unfold wN rtN
 rw [← Nat.mul_mod, Nat.mul_mod_mod, ← Nat.pow_add, Nat.mul_comm, ← Nat.pow_succ]
 show 17 ^ (rvN k + rvN k + 1) % 3329 = _
 rw [show rvN k + rvN k + 1 = 2 * rvN k + 1 by omega]
theorem pair_E (p r : Nat → Nat) (k : Nat) : (p (2 * k) * r (2 * k) % 3329 + rtN k * (p (2 * k + 1) * r (2 * k + 1) % 3329) % 3329) % 3329 = pairN p r (2 * k) := by
 unfold pairN
 rw [if_pos (by omega), show 2 * k / 2 = k by omega, ← rd_same]
 refine rd_of ?_
 rw [Int.natCast_add]
 refine ((rM_nat _).trans (rM.of (Int.natCast_mul _ _))).add ((rM_nat _).trans ?_)
 rw [Int.natCast_mul]
 exact (rM.of rfl).mul ((rM_nat _).trans (rM.of (Int.natCast_mul _ _)))
theorem pair_O (p r : Nat → Nat) (k : Nat) : (p (2 * k) * r (2 * k + 1) % 3329 + p (2 * k + 1) * r (2 * k) % 3329) % 3329 = pairN p r (2 * k + 1) := by
 unfold pairN
 rw [if_neg (by omega), show (2 * k + 1) / 2 = k by omega, ← rd_same]
 refine rd_of ?_
 rw [Int.natCast_add]
 exact ((rM_nat _).trans (rM.of (Int.natCast_mul _ _))).add ((rM_nat _).trans (rM.of (Int.natCast_mul _ _)))
set_option maxHeartbeats 2000000 in
theorem MulNtt_any (p p2 : Nat → Nat) (hp : ∀ i, i < 256 → p i < 65536) (hp2 : ∀ i, i < 256 → p2 i < 65536) (w : World) : Calls Tryd.prog 65 #[polyV p, polyV p2] w (PolyIs w (pairN p p2)) := by
 unfold PolyIs polyV
 generalize hN : w.heap.size = N at *
 have HP := Shh.mk (And.intro hp hp2)
 have HZ : Shh (∀ k, (p (2 * k) * p2 (2 * k) % 3329 + rtN k * (p (2 * k + 1) * p2 (2 * k + 1) % 3329) % 3329) % 3329 = pairN p p2 (2 * k) ∧ (p (2 * k) * p2 (2 * k + 1) % 3329 + p (2 * k + 1) * p2 (2 * k) % 3329) % 3329 = pairN p p2 (2 * k + 1)) := ⟨fun k => ⟨pair_E p p2 k, pair_O p p2 k⟩⟩
 have HRT : Shh (∀ W, Calls Tryd.prog 77 #[] W (RootsIs W)) := ⟨fun W => roots_any W⟩
 generalize pairN p p2 = r at *
 clear hp hp2
 obtain ⟨S0, hS0⟩ : ∃ S0, S0 = (((w.alloc (.cells (pc p).toArray 62)).alloc (.cells (pc p2).toArray 62)).alloc (.cells (pc fun _ => 0).toArray 62)).alloc (.cells (pc fun _ => 0).toArray 62) := ⟨_, rfl⟩
 have HS0 : Shh (Row S0 N 62 (pc p) ∧ Row S0 (N + 1) 62 (pc p2) ∧ Row S0 (N + 2) 62 (pc fun _ => 0) ∧ Row S0 (N + 3) 62 (pc (half r (fun _ => 0) 0)) ∧ Below N w S0) := by
  refine ⟨by rw [hS0]; exact (((Row.new_ hN.symm rfl).alloc _).alloc _).alloc _, by rw [hS0]; exact ((Row.new_ (by rw [asz, hN]) rfl).alloc _).alloc _, by rw [hS0]; exact (Row.new_ (by rw [asz, asz, hN]) rfl).alloc _, by rw [hS0, half_zero]; exact Row.new_ (by rw [asz, asz, asz, hN]) rfl, ?_⟩
  rw [hS0, ← hN]
  exact Below.chain (Below.chain (Below.chain (bel1 _ _) (bel1 _ _)) (bel1 _ _)) (bel1 _ _)
 rw [hS0] at HS0
 clear hS0
 go_enter Tryd.func65, Tryd.ntmps65
 go_wp2_with (first | refine wl_allocP rfl rfl ?_ | (go_at_call 77; refine (HRT.out _).mono ?_))
 rintro e w2 ⟨rfl, b2⟩
 have HW2 : Shh (Row w2 N 62 (pc p) ∧ Row w2 (N + 1) 62 (pc p2) ∧ Row w2 (N + 2) 62 (pc fun _ => 0) ∧ Row w2 (N + 3) 62 (pc (half r (fun _ => 0) (2 * 0))) ∧ Below N w w2) := ⟨HS0.out.1.go b2, HS0.out.2.1.go b2, HS0.out.2.2.1.go b2, HS0.out.2.2.2.1.go b2, HS0.out.2.2.2.2.trans (b2.mono (Nat.le_of_lt HS0.out.1.lt))⟩
 clear b2 HS0 HRT S0
 go_wp2
 go_loopw [14] (fun i wr => ∃ k : Nat, k ≤ 128 ∧ i = .int .i64 (k : Int) ∧ Shh (Row wr N 62 (pc p) ∧ Row wr (N + 1) 62 (pc p2) ∧ Row wr (N + 2) 62 (pc fun _ => 0) ∧ Row wr (N + 3) 62 (pc (half r (fun _ => 0) (2 * k))) ∧ Below N w wr)) (fun i _ => 128 - (intOf i).toNat)
 case atStart => exact ⟨0, Nat.zero_le _, rfl, HW2⟩
 case round =>
  clear HW2
  obtain ⟨k, hk, rfl, HI⟩ := hrel
  by_cases hlt : k < 128
  ·have hlt2 : (k : Int) < 128 := by omega
   have HGW := Shh.mk (uc_get wN hlt)
   obtain ⟨d, Hd⟩ : ∃ d, Shh (d = 2 * k ∧ d ≤ 1000000000000) := ⟨_, ⟨rfl, by omega⟩⟩
   obtain ⟨d1, Hd1⟩ : ∃ d1, Shh (d1 = d + 1 ∧ d1 ≤ 1000000000000) := ⟨_, ⟨rfl, by have := Hd.out; omega⟩⟩
   have hd : d < 256 := by have := Hd.out; omega
   have hd1 : d1 < 256 := by have := Hd.out; have := Hd1.out; omega
   have HST := HZ.out k
   have HH2 : Shh (pc (upd (upd (half r (fun _ => 0) (2 * k)) d (r d)) d1 (r d1)) = pc (half r (fun _ => 0) (2 * (k + 1)))) := ⟨by rw [Hd1.out.1, Hd.out.1]; exact half_two r (fun _ => 0) k⟩
   rw [← Hd.out.1, ← Hd1.out.1] at HST
   have hRW := rt_w k
   have B0 := wN_lt k
   have BG : rtN k < 3329 := Nat.mod_lt _ (by decide)
   generalize wN k = z at *
   generalize rtN k = g at *
   have P1 := HP.out.1 d hd
   have P2 := HP.out.1 d1 hd1
   have P3 := HP.out.2 d hd
   have P4 := HP.out.2 d1 hd1
   have c1 := HI.out.1.drew.cell d
   rw [pc_get _ hd] at c1
   have c2 := HI.out.1.drew.cell d1
   rw [pc_get _ hd1] at c2
   have c3 := HI.out.2.1.drew.cell d
   rw [pc_get _ hd] at c3
   have c4 := HI.out.2.1.drew.cell d1
   rw [pc_get _ hd1] at c4
   generalize p d = a0 at *
   generalize p d1 = a1 at *
   generalize p2 d = b0 at *
   generalize p2 d1 = b1 at *
   generalize r d = r0 at *
   generalize r d1 = r1 at *
   obtain ⟨z2, Hz2⟩ : ∃ v, Shh (v = z * z % 3329) := ⟨_, ⟨rfl⟩⟩
   obtain ⟨m1, Hm1⟩ : ∃ v, Shh (v = a0 * b0 % 3329) := ⟨_, ⟨rfl⟩⟩
   obtain ⟨m2, Hm2⟩ : ∃ v, Shh (v = a1 * b1 % 3329) := ⟨_, ⟨rfl⟩⟩
   obtain ⟨m3, Hm3⟩ : ∃ v, Shh (v = g * m2 % 3329) := ⟨_, ⟨rfl⟩⟩
   obtain ⟨m4, Hm4⟩ : ∃ v, Shh (v = a0 * b1 % 3329) := ⟨_, ⟨rfl⟩⟩
   obtain ⟨m5, Hm5⟩ : ∃ v, Shh (v = a1 * b0 % 3329) := ⟨_, ⟨rfl⟩⟩
   have q2 : m2 < 3329 := by rw [Hm2.out]; exact Nat.mod_lt _ (by decide)
   have q1 : m1 < 3329 := by rw [Hm1.out]; exact Nat.mod_lt _ (by decide)
   have q3 : m3 < 3329 := by rw [Hm3.out]; exact Nat.mod_lt _ (by decide)
   have q4 : m4 < 3329 := by rw [Hm4.out]; exact Nat.mod_lt _ (by decide)
   have q5 : m5 < 3329 := by rw [Hm5.out]; exact Nat.mod_lt _ (by decide)
   have q6 : z2 < 3329 := by rw [Hz2.out]; exact Nat.mod_lt _ (by decide)
   rw [← Hm1.out, ← Hm2.out, ← Hm3.out, ← Hm4.out, ← Hm5.out] at HST
   rw [← Hz2.out] at hRW
   have C1 : Shh (∀ W, Calls Tryd.prog 78 #[.int .u16 (z : Int), .int .u16 (z : Int)] W (U16Is W z2)) := ⟨fun W => by rw [Hz2.out]; exact product_any z z ⟨by omega, by omega⟩ W⟩
   have C2 : Shh (∀ W, Calls Tryd.prog 78 #[.int .u16 17, .int .u16 (z2 : Int)] W (U16Is W g)) := ⟨fun W => by rw [← hRW]; exact product_any 17 z2 ⟨by omega, by omega⟩ W⟩
   have D1 : Shh (∀ W, Calls Tryd.prog 78 #[.int .u16 (a0 : Int), .int .u16 (b0 : Int)] W (U16Is W m1)) := ⟨fun W => by rw [Hm1.out]; exact product_any a0 b0 ⟨by omega, by omega⟩ W⟩
   have D2 : Shh (∀ W, Calls Tryd.prog 78 #[.int .u16 (a1 : Int), .int .u16 (b1 : Int)] W (U16Is W m2)) := ⟨fun W => by rw [Hm2.out]; exact product_any a1 b1 ⟨by omega, by omega⟩ W⟩
   have D3 : Shh (∀ W, Calls Tryd.prog 78 #[.int .u16 (g : Int), .int .u16 (m2 : Int)] W (U16Is W m3)) := ⟨fun W => by rw [Hm3.out]; exact product_any g m2 ⟨by omega, by omega⟩ W⟩
   have D4 : Shh (∀ W, Calls Tryd.prog 64 #[.int .u16 (m1 : Int), .int .u16 (m3 : Int)] W (U16Is W r0)) := ⟨fun W => by rw [← HST.1]; exact sum_any m1 m3 (by omega) W⟩
   have E1 : Shh (∀ W, Calls Tryd.prog 78 #[.int .u16 (a0 : Int), .int .u16 (b1 : Int)] W (U16Is W m4)) := ⟨fun W => by rw [Hm4.out]; exact product_any a0 b1 ⟨by omega, by omega⟩ W⟩
   have E2 : Shh (∀ W, Calls Tryd.prog 78 #[.int .u16 (a1 : Int), .int .u16 (b0 : Int)] W (U16Is W m5)) := ⟨fun W => by rw [Hm5.out]; exact product_any a1 b0 ⟨by omega, by omega⟩ W⟩
   have E3 : Shh (∀ W, Calls Tryd.prog 64 #[.int .u16 (m4 : Int), .int .u16 (m5 : Int)] W (U16Is W r1)) := ⟨fun W => by rw [← HST.2]; exact sum_any m4 m5 (by omega) W⟩
   have HC := Shh.mk (And.intro c1 (And.intro c2 (And.intro c3 c4)))
   clear c1 c2 c3 c4 q1 q2 q3 q4 q5 q6 HST hRW B0 BG P1 P2 P3 P4 Hm1 Hm2 Hm3 Hm4 Hm5 Hz2
   go_wp2_with (first | refine wl_at 17 rfl (.int .u16 (z : Int)) rfl (idx_roots hlt HGW.out rfl rfl rfl) ?_ | (go_at_call 78; refine (C1.out _).mono ?_))
   rintro e w3 ⟨rfl, rfl⟩
   go_wp2_with (go_at_call 78; refine (C2.out _).mono ?_)
   rintro e w3 ⟨rfl, rfl⟩
   go_wp2
   refine wp_region_held_drew (S := fun w' => w'.cell? ⟨N, d, none⟩ = some (.int .u16 (a0 : Int)) ∧ w'.cell? ⟨N, d1, none⟩ = some (.int .u16 (a1 : Int)) ∧ w'.cell? ⟨N + 1, d, none⟩ = some (.int .u16 (b0 : Int)) ∧ w'.cell? ⟨N + 1, d1, none⟩ = some (.int .u16 (b1 : Int))) (by kernel_rfl) HC.out (fun hS => ?_)
   clear hS
   obtain ⟨U, hU⟩ : ∃ V, V = World.drew wr := ⟨_, rfl⟩
   rw [← hU] at HC ⊢
   have HIU : Shh (Row U N 62 (pc p) ∧ Row U (N + 1) 62 (pc p2) ∧ Row U (N + 2) 62 (pc fun _ => 0) ∧ Row U (N + 3) 62 (pc (half r (fun _ => 0) (2 * k))) ∧ Below N w U) := by rw [hU]; exact ⟨HI.out.1.drew, HI.out.2.1.drew, HI.out.2.2.1.drew, HI.out.2.2.2.1.drew, HI.out.2.2.2.2.drew⟩
   clear HI hU
   refine hdv0 0 22 (.int .i64 (k : Int)) (by rfl) (HC.out) ?_
   refine hdv 1 23 (.int .i64 (d : Int)) (by rfl) (fun w hS => mul_iin (i := 2) (j := k) Hd.out.1 Hd.out.2 rfl (by kernel_rfl) (by kernel_rfl)) (HC.out) ?_
   refine hdv 2 24 (.pointer (some ⟨N, d, none⟩)) (by rfl) (fun w hS => at_poly hd rfl (by kernel_rfl) (by kernel_rfl)) (HC.out) ?_
   refine hdv 3 25 (.int .u16 (a0 : Int)) (by rfl) (fun w hS => load_u16 rfl hS.1 (by kernel_rfl)) (HC.out) ?_
   refine hdv0 4 26 (.int .i64 (k : Int)) (by rfl) (HC.out) ?_
   refine hdv 5 27 (.int .i64 (d : Int)) (by rfl) (fun w hS => mul_iin (i := 2) (j := k) Hd.out.1 Hd.out.2 rfl (by kernel_rfl) (by kernel_rfl)) (HC.out) ?_
   refine hdv 6 28 (.int .i64 (d1 : Int)) (by rfl) (fun w hS => add_ii (i := d) (j := 1) Hd1.out rfl (by kernel_rfl) (by kernel_rfl)) (HC.out) ?_
   refine hdv 7 29 (.pointer (some ⟨N, d1, none⟩)) (by rfl) (fun w hS => at_poly hd1 rfl (by kernel_rfl) (by kernel_rfl)) (HC.out) ?_
   refine hdv 8 30 (.int .u16 (a1 : Int)) (by rfl) (fun w hS => load_u16 rfl hS.2.1 (by kernel_rfl)) (HC.out) ?_
   refine hdv0 9 31 (.int .i64 (k : Int)) (by rfl) (HC.out) ?_
   refine hdv 10 32 (.int .i64 (d : Int)) (by rfl) (fun w hS => mul_iin (i := 2) (j := k) Hd.out.1 Hd.out.2 rfl (by kernel_rfl) (by kernel_rfl)) (HC.out) ?_
   refine hdv 11 33 (.pointer (some ⟨N + 1, d, none⟩)) (by rfl) (fun w hS => at_poly hd rfl (by kernel_rfl) (by kernel_rfl)) (HC.out) ?_
   refine hdv 12 34 (.int .u16 (b0 : Int)) (by rfl) (fun w hS => load_u16 rfl hS.2.2.1 (by kernel_rfl)) (HC.out) ?_
   refine hdv0 13 35 (.int .i64 (k : Int)) (by rfl) (HC.out) ?_
   refine hdv 14 36 (.int .i64 (d : Int)) (by rfl) (fun w hS => mul_iin (i := 2) (j := k) Hd.out.1 Hd.out.2 rfl (by kernel_rfl) (by kernel_rfl)) (HC.out) ?_
   refine hdv 15 37 (.int .i64 (d1 : Int)) (by rfl) (fun w hS => add_ii (i := d) (j := 1) Hd1.out rfl (by kernel_rfl) (by kernel_rfl)) (HC.out) ?_
   refine hdv 16 38 (.pointer (some ⟨N + 1, d1, none⟩)) (by rfl) (fun w hS => at_poly hd1 rfl (by kernel_rfl) (by kernel_rfl)) (HC.out) ?_
   refine hdv 17 39 (.int .u16 (b1 : Int)) (by rfl) (fun w hS => load_u16 rfl hS.2.2.2 (by kernel_rfl)) (HC.out) ?_
   refine hdv0 18 9 (.int .u16 (a0 : Int)) (by rfl) (HC.out) ?_
   refine hdv0 19 10 (.int .u16 (a1 : Int)) (by rfl) (HC.out) ?_
   refine hdv0 20 11 (.int .u16 (b0 : Int)) (by rfl) (HC.out) ?_
   refine hdv0 21 12 (.int .u16 (b1 : Int)) (by rfl) (HC.out) ?_
   refine wpAnyH_done (by kernel_rfl) ?_ _
   clear HC
   go_wp2_with (first | refine wl_at 41 rfl (.int .i64 (d : Int)) rfl (mul_iin (i := 2) (j := k) Hd.out.1 Hd.out.2 rfl rfl rfl) ?_ | (go_at_call 78; refine (D1.out _).mono ?_))
   rintro e w3 ⟨rfl, rfl⟩
   go_wp2_with (go_at_call 78; refine (D2.out _).mono ?_)
   rintro e w3 ⟨rfl, rfl⟩
   go_wp2_with (go_at_call 78; refine (D3.out _).mono ?_)
   rintro e w3 ⟨rfl, rfl⟩
   go_wp2_with (go_at_call 64; refine (D4.out _).mono ?_)
   rintro e w3 ⟨rfl, rfl⟩
   go_wp2_with (first | refine wl_at 51 rfl (.pointer (some ⟨N + 3, d, none⟩)) rfl (at_poly hd rfl rfl rfl) ?_ | refine wl_storeP rfl hd rfl rfl rfl HIU.out.2.2.2.1 ?_)
   intro w3 r3 b3 z3
   have HI3 : Shh (Row w3 N 62 (pc p) ∧ Row w3 (N + 1) 62 (pc p2) ∧ Row w3 (N + 2) 62 (pc fun _ => 0) ∧ Row w3 (N + 3) 62 (pc (upd (half r (fun _ => 0) (2 * k)) d r0)) ∧ Below N w w3) := ⟨b3.row HIU.out.1 HIU.out.1.lt (by omega), b3.row HIU.out.2.1 HIU.out.2.1.lt (by omega), b3.row HIU.out.2.2.1 HIU.out.2.2.1.lt (by omega), r3, HIU.out.2.2.2.2.trans (b3.under (Nat.le_of_lt HIU.out.1.lt) (by omega))⟩
   clear r3 b3 z3 HIU
   go_wp2_with (first | refine wl_at 53 rfl (.int .i64 (d : Int)) rfl (mul_iin (i := 2) (j := k) Hd.out.1 Hd.out.2 rfl rfl rfl) ?_ | refine wl_at 54 rfl (.int .i64 (d1 : Int)) rfl (add_ii (i := d) (j := 1) Hd1.out rfl rfl rfl) ?_ | (go_at_call 78; refine (E1.out _).mono ?_))
   rintro e w3 ⟨rfl, rfl⟩
   go_wp2_with (go_at_call 78; refine (E2.out _).mono ?_)
   rintro e w3 ⟨rfl, rfl⟩
   go_wp2_with (go_at_call 64; refine (E3.out _).mono ?_)
   rintro e w3 ⟨rfl, rfl⟩
   go_wp2_with (first | refine wl_at 62 rfl (.pointer (some ⟨N + 3, d1, none⟩)) rfl (at_poly hd1 rfl rfl rfl) ?_ | refine wl_storeP rfl hd1 rfl rfl rfl HI3.out.2.2.2.1 ?_)
   intro w4 r4 b4 z4
   rw [HH2.out] at r4
   have HI4 : Shh (Row w4 N 62 (pc p) ∧ Row w4 (N + 1) 62 (pc p2) ∧ Row w4 (N + 2) 62 (pc fun _ => 0) ∧ Row w4 (N + 3) 62 (pc (half r (fun _ => 0) (2 * (k + 1)))) ∧ Below N w w4) := ⟨b4.row HI3.out.1 HI3.out.1.lt (by omega), b4.row HI3.out.2.1 HI3.out.2.1.lt (by omega), b4.row HI3.out.2.2.1 HI3.out.2.2.1.lt (by omega), r4, HI3.out.2.2.2.2.trans (b4.under (Nat.le_of_lt HI3.out.1.lt) (by omega))⟩
   clear r4 b4 z4 HI3
   go_wp2
   go_roundw
   case rel => exact ⟨k + 1, by omega, by go_num, HI4⟩
   case measure => simp [intOf]; omega
  ·have HL : Shh (pc (half r (fun _ => 0) (2 * k)) = pc r) := ⟨by rw [show 2 * k = 256 by omega]; exact half_all _ _⟩
   rw [HL.out] at HI
   have hlt2 : ¬ (k : Int) < 128 := by omega
   clear HL HP HZ
   go_wp2_with (first
    | refine wpList_load_any rfl 62 (.tmp 5) rfl (N + 3) rfl 62 (pc r) (.array 256 39) HI.out.2.2.2.1 Tryd.underlying62 rfl (info_poly.trans (size_poly r)) ?_
    | refine wpList_store_any rfl 62 (.tmp 4) (.tmp 64) rfl (N + 2) rfl (pc r) rfl 62 _ HI.out.2.2.1 (info_poly.trans (size_poly r)) (by rw [pc_length, pc_length]) (pc_one r) ?_)
   intro w9 hr9 b9 _
   have hb9 := HI.out.2.2.2.2.trans (b9.under (Nat.le_of_lt HI.out.1.lt) (by omega))
   go_wp2
   exact ret_row Tryd.results65 rfl rfl hr9 Tryd.underlying62 rfl (info_poly.trans (size_poly r)) ⟨rfl, hb9⟩
end Go.Proofs.YtbjpbeplpljieaaDoor
