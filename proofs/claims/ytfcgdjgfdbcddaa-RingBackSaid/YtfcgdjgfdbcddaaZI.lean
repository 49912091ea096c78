import Derived.Test.YtfcgdjgfdbcddaaZD
import Derived.Test.YtfcgdjgfdbcddaaZH
import Derived.Test.YtfcgdjgfdbcddaaZF
/-
 THE PROGRAM'S OWN packed: bytes out of coefficients of d bits.
-/
namespace Go.Proofs.Ytfcgdjgfdbcddaa
open Go.RowKit
set_option maxRecDepth 100000
section
variable {a : Act} {x y : Operand} {op : Oper} {w : World}
theorem conv_32b {n k : Nat} (h : k = n % 256) (ho : op.op = .convert 54 5 x) (hx : a.eval x = .int .u32 (n : Int)) : (execOp a.eval op).run Try.prog w = .ok (.value (.int .u8 (k : Int))) w := by
 have hw : IntKind.u8.wrap (n : Int) = (k : Int) := by rw [IntKind.wrap_u8]; omega
 have hm : (n : Int) % 256 = (k : Int) := by omega
 clear h
 unfold execOp
 simp only [ho, hx]
 go_simp
theorem shr_32c {n k : Nat} (h : k = n / 256) (hn : n < 4294967296) (ho : op.op = .binOp .shr 54 x (.const (.int .u64 8)) 42) (hx : a.eval x = .int .u32 (n : Int)) : (execOp a.eval op).run Try.prog w = .ok (.value (.int .u32 (k : Int))) w := by
 have hc : a.eval (.const (.int .u64 8)) = .int .u64 8 := rfl
 have he : (n : Int) / 256 = (k : Int) := by omega
 have hw : IntKind.u32.wrap (k : Int) = (k : Int) := by rw [IntKind.wrap_u32]; omega
 have hm : (k : Int) % 4294967296 = (k : Int) := by omega
 clear h
 unfold execOp
 simp only [ho, hx, hc]
 go_simp
/-- what lies below 2 to the c, and a multiple of it: their 'or' is their sum -/
theorem or_32 {n m k c : Nat} (h : k = n + m * 2 ^ c) (hn : n < 2 ^ c) (hk : k < 4294967296) (ho : op.op = .binOp .or 54 x y 54) (hx : a.eval x = .int .u32 (n : Int)) (hy : a.eval y = .int .u32 ((m * 2 ^ c : Nat) : Int)) : (execOp a.eval op).run Try.prog w = .ok (.value (.int .u32 (k : Int))) w := by
 have h1 : n ||| m * 2 ^ c = k := by
  rw [Nat.or_comm, ← Nat.shiftLeft_eq, ← Nat.shiftLeft_add_eq_or_of_lt hn, Nat.shiftLeft_eq, h, Nat.add_comm]
 have h2 := (bits_nat .u32 32 (by decide) wraps_u32 n (m * 2 ^ c) (by omega) (by omega)).2
 rw [h1] at h2
 generalize m * 2 ^ c = q at *
 clear h
 unfold execOp
 simp only [ho, hx, hy]
 go_simp
end
set_option maxHeartbeats 2000000 in
theorem packed_any (d : Nat) (hd : 1 ≤ d ∧ d ≤ 12) (p : Nat → Nat) (hp : ∀ i, i < 256 → p i < 65536) (w : World) : Calls Try.prog 51 #[.int .i64 (d : Int), polyV p] w (OwnIs w (litB (sumN (fun i => p i % 2 ^ d) (2 ^ d) 256) (32 * d))) := by
 obtain ⟨i0, hi, hz0, hz1, hz2⟩ := info_parts info_u8
 unfold OwnIs polyV
 generalize hN : w.heap.size = N at *
 have hmk := make0_run (32 * d) (by omega)
 obtain ⟨L, hL⟩ : ∃ L, Shh (L = 32 * d) := ⟨_, ⟨rfl⟩⟩
 have HL2 : Shh (L ≤ 1000) := ⟨by have := hL.out; omega⟩
 have HL3 : Shh (L ≤ 1000000000000) := ⟨by have := hL.out; omega⟩
 rw [← hL.out] at hmk ⊢
 obtain ⟨f, hf⟩ : ∃ f : Nat → Nat, Shh (f = fun i => p i % 2 ^ d) := ⟨_, ⟨rfl⟩⟩
 have HFL : Shh (∀ i, f i < 2 ^ d) := ⟨fun i => by rw [hf.out]; exact Nat.mod_lt _ (Nat.two_pow_pos d)⟩
 have HLO : Shh (∀ i, i < 256 → ∀ W, Calls Try.prog 49 #[.int .i64 (d : Int), .int .u16 (p i : Int)] W (U16Is W (f i))) := ⟨fun i hi2 W => by rw [hf.out]; exact low_any d (p i) (by omega) (hp i hi2) W⟩
 obtain ⟨A, hA⟩ : ∃ A : Nat → Nat, Shh (A = sumN f (2 ^ d)) := ⟨_, ⟨rfl⟩⟩
 rw [show sumN (fun i => p i % 2 ^ d) (2 ^ d) 256 = A 256 by rw [hA.out, hf.out]]
 have HP : Shh (∀ k m c, c + 8 * m = d * k → A (k + 1) / 256 ^ m = A k / 256 ^ m + f k * 2 ^ c ∧ litB (A (k + 1)) m = litB (A k) m) := ⟨fun k m c h => by rw [hA.out]; exact pack_in d k m c h⟩
 have HPL : Shh (∀ k m c, c + 8 * m = d * k → A k / 256 ^ m < 2 ^ c) := ⟨fun k m c h => by rw [hA.out]; exact pack_lt d k m c HFL.out h⟩
 have HA0 : Shh (A 0 / 256 ^ 0 = 0 ∧ litB (A 0) 0 = []) := ⟨by rw [hA.out]; exact ⟨Nat.zero_div _, rfl⟩⟩
 have HD := Shh.mk hd
 clear hA hf hp hd
 obtain ⟨W1, hW1⟩ : ∃ W1, W1 = w.alloc (.cells (pc p).toArray 24) := ⟨_, rfl⟩
 have HW1 : Shh (Row W1 N 24 (pc p) ∧ Below N w W1) := by
  refine ⟨by rw [hW1]; exact Row.new_ hN.symm rfl, ?_⟩
  rw [hW1, ← hN]
  exact bel1 _ _
 obtain ⟨W2, hW2⟩ : ∃ W2, W2 = W1.alloc (.cells (Lib.byteCells (List.replicate L 0)).toArray 5) := ⟨_, rfl⟩
 have hmk1 := hmk W1
 rw [← hW2] at hmk1
 have HW2 : Shh (Row W2 N 24 (pc p) ∧ Below N w W2 ∧ W2.ownsRow N 5 1 (.slice (some ⟨W1.heap.size, 0, none⟩) 0 L) 0 (Lib.byteCells [])) := by
  have h2 := World.ownsRow_made (base := N) (e := 5) (size := 1) W1 (Lib.byteCells (List.replicate L 0)).toArray L (by have := HW1.out.1.lt; omega) (by have := HL2.out; unfold maxLen; omega) (by simp [Lib.byteCells_length])
  refine ⟨by rw [hW2]; exact HW1.out.1.alloc _, by rw [hW2]; exact HW1.out.2.alloc (Nat.le_of_lt HW1.out.1.lt) _, ?_⟩
  rw [hW2]
  exact h2
 obtain ⟨v0, hv0⟩ : ∃ v0, Shh (v0 = Value.slice (some ⟨W1.heap.size, 0, none⟩) 0 L) := ⟨_, ⟨rfl⟩⟩
 rw [← hv0.out] at hmk1 HW2
 rw [hW1] at hmk1
 clear hmk hW2 hv0 hW1 HW1
 go_enter Try.func51, Try.ntmps51
 go_wp2_with (first | refine wl_at 11 rfl (.int .i64 (L : Int)) rfl (mul_iin (i := 32) (j := d) hL.out HL3.out rfl rfl rfl) ?_ | refine wpList_load_any rfl 24 (.tmp 3) rfl N rfl 24 (pc p) (.array 256 22) HW2.out.1 Try.underlying24 rfl (info_poly.trans (size_poly p)) ?_)
 go_loopw [5, 6, 7, 14] (fun b r c i wr => ∃ k m n : Nat, k ≤ 256 ∧ i = .int .i64 (k : Int) ∧ r = .int .u32 ((A k / 256 ^ m : Nat) : Int) ∧ c = .int .i64 (n : Int) ∧ Shh (n + 8 * m = d * k ∧ n < 8 ∧ Below N w wr ∧ wr.ownsRow N 5 1 b m (Lib.byteCells (litB (A k) m)))) (fun _ _ _ i _ => 256 - (intOf i).toNat)
 case atStart => exact ⟨0, 0, 0, Nat.zero_le _, rfl, by rw [HA0.out.1]; rfl, rfl, ⟨⟨by omega, by decide, HW2.out.2.1, by rw [HA0.out.2]; exact HW2.out.2.2⟩⟩⟩
 case round =>
  clear HW2 hmk1
  obtain ⟨k, m, c, hk, rfl, rfl, rfl, HI⟩ := hrel
  by_cases hlt : k < 256
  ·have hlt2 : (k : Int) < 256 := by omega
   have HG := Shh.mk (pc_get p hlt)
   have HC := Shh.mk (HLO.out k hlt)
   obtain ⟨e1, e2⟩ := HP.out k m c HI.out.1
   have e3 := HPL.out k m c HI.out.1
   have e4 := HFL.out k
   have e5 : 2 ^ d ≤ 4096 := Nat.le_trans (Nat.pow_le_pow_right (by decide) HD.out.2) (by decide)
   have e6 : 2 ^ c ≤ 128 := Nat.le_trans (Nat.pow_le_pow_right (by decide) (show c ≤ 7 by have := HI.out.2.1; omega)) (by decide)
   have hc31 : Shh (c ≤ 31) := ⟨by have := HI.out.2.1; omega⟩
   have HI1 : Shh (Below N w wr ∧ wr.ownsRow N 5 1 u5 m (Lib.byteCells (litB (A (k + 1)) m))) := ⟨HI.out.2.2.1, by rw [e2]; exact HI.out.2.2.2⟩
   generalize p k = pk at *
   generalize f k = fk at *
   obtain ⟨x, Hx⟩ : ∃ x, Shh (x = A k / 256 ^ m) := ⟨_, ⟨rfl⟩⟩
   obtain ⟨z, Hz⟩ : ∃ z, Shh (z = A (k + 1) / 256 ^ m) := ⟨_, ⟨rfl⟩⟩
   rw [← Hx.out] at e1 e3 ⊢
   rw [← Hz.out] at e1
   obtain ⟨y, Hy⟩ : ∃ y, Shh (y = fk * 2 ^ c) := ⟨_, ⟨rfl⟩⟩
   have hyl : y ≤ 4096 * 128 := by rw [Hy.out]; exact Nat.mul_le_mul (by omega) e6
   rw [← Hy.out] at e1
   have HV : Shh (fk < 65536 ∧ y < 4294967296 ∧ z < 4294967296) := ⟨by omega, by omega, by omega⟩
   have HOR : Shh (z = x + fk * 2 ^ c ∧ x < 2 ^ c ∧ z < 4294967296) := ⟨by rw [← Hy.out]; exact e1, e3, HV.out.2.2⟩
   obtain ⟨c2, Hc2⟩ : ∃ v, Shh (v = c + d ∧ v ≤ 1000000000000) := ⟨_, ⟨rfl, by have := HI.out.2.1; have := HD.out; omega⟩⟩
   have HCD : Shh (c2 + 8 * m = d * (k + 1) ∧ c2 ≤ 19) := ⟨by rw [Nat.mul_succ, ← HI.out.1]; have := Hc2.out; omega, by have := Hc2.out; have := HI.out.2.1; have := HD.out; omega⟩
   clear e1 e2 e3 e4 e5 e6 hyl Hx HI
   go_wp2_with (first | refine wl_at 16 rfl (.int .u16 (pk : Int)) rfl (idx_poly hlt HG.out rfl rfl rfl) ?_ | (go_at_call 49; refine (HC.out _).mono ?_))
   rintro e w2 ⟨rfl, rfl⟩
   go_wp2_with (first | refine wl_at 21 rfl (.int .u32 (fk : Int)) rfl (conv_u32 HV.out.1 rfl rfl) ?_ | refine wl_at 23 rfl (.int .u32 ((fk * 2 ^ c : Nat) : Int)) rfl (shl_32 (n := fk) (d := c) rfl hc31.out (by rw [← Hy.out]; exact HV.out.2.1) rfl rfl rfl) ?_ | refine wl_at 24 rfl (.int .u32 (z : Int)) rfl (or_32 (n := x) (m := fk) (c := c) HOR.out.1 HOR.out.2.1 HOR.out.2.2 rfl rfl rfl) ?_ | refine wl_at 27 rfl (.int .i64 (c2 : Int)) rfl (add_ii (i := c) (j := d) Hc2.out rfl rfl rfl) ?_)
   go_loopw [5, 6, 7] (fun b r c wr => ∃ m n : Nat, r = .int .u32 ((A (k + 1) / 256 ^ m : Nat) : Int) ∧ c = .int .i64 (n : Int) ∧ Shh (n + 8 * m = d * (k + 1) ∧ n ≤ 19 ∧ Below N w wr ∧ wr.ownsRow N 5 1 b m (Lib.byteCells (litB (A (k + 1)) m)))) (fun _ _ c _ => (intOf c).toNat)
   case atStart => exact ⟨m, c2, by rw [Hz.out], rfl, ⟨⟨HCD.out.1, HCD.out.2, HI1.out.1, HI1.out.2⟩⟩⟩
   case round =>
    clear HI1 HCD
    obtain ⟨m2, n2, rfl, rfl, HI⟩ := hrel
    have e3 := HPL.out (k + 1) m2 n2 HI.out.1
    have e6 : 2 ^ n2 ≤ 2 ^ 19 := Nat.pow_le_pow_right (by decide) HI.out.2.1
    obtain ⟨z2, Hz2⟩ : ∃ z2, Shh (z2 = A (k + 1) / 256 ^ m2) := ⟨_, ⟨rfl⟩⟩
    have hz2l : z2 < 4294967296 := by rw [Hz2.out]; exact Nat.lt_trans (Nat.lt_of_lt_of_le e3 e6) (by decide)
    have HZL := Shh.mk hz2l
    clear e3 e6 hz2l
    by_cases h8 : 8 ≤ n2
    ·have h8i : (8 : Int) ≤ (n2 : Int) := by omega
     rw [← Hz2.out]
     obtain ⟨b, Hb⟩ : ∃ b, Shh (b = z2 % 256) := ⟨_, ⟨rfl⟩⟩
     obtain ⟨z3, Hz3⟩ : ∃ z3, Shh (z3 = z2 / 256) := ⟨_, ⟨rfl⟩⟩
     obtain ⟨n3, Hn3⟩ : ∃ n3, Shh (n2 = n3 + 8 ∧ n2 ≤ 1000000000000) := ⟨n2 - 8, ⟨by omega, by have := HI.out.2.1; omega⟩⟩
     have HE : Shh (z3 = A (k + 1) / 256 ^ (m2 + 1) ∧ Lib.byteCells (litB (A (k + 1)) m2) ++ [Value.int .u8 (b : Int)] = Lib.byteCells (litB (A (k + 1)) (m2 + 1))) := by
      constructor
      constructor
      ·rw [Hz3.out, Hz2.out, Nat.pow_succ, Nat.div_div_eq_div_mul]
      ·rw [litB_snoc, Hb.out, Hz2.out]
       simp [Lib.byteCells]
     have hbn := HI.out.2.2.1
     have hsz : N ≤ wr.heap.size := by have := hbn.size; rw [hN] at this; exact this
     have hml : m2 + 1 ≤ 140737488355328 := by
      have h1 := HI.out.1
      have h2 : d * (k + 1) ≤ 12 * 256 := Nat.mul_le_mul HD.out.2 (by omega)
      omega
     have HJ := Shh.mk (And.intro HI.out.1 HI.out.2.1)
     have hown := HI.out.2.2.2
     clear HI
     go_wp2_with (first | refine wl_at 34 rfl (.int .u8 (b : Int)) rfl (conv_32b (n := z2) Hb.out rfl rfl) ?_ | (at_builtin; refine wp_append1 _ 34 5 i0 (.int .u8 0) Try.underlying34 hi hz0 hz1 hz2 rfl rfl _ _ rfl hown rfl rfl rfl hml hsz ?_))
     intro v' w1 hown2 _ hb1
     rw [HE.out.2] at hown2
     have HO := Shh.mk (And.intro hown2 (hbn.trans (hb1 N (Nat.le_refl _))))
     clear hown hown2 hb1 hbn hsz hml
     go_wp2_with (first | refine wl_at 38 rfl (.int .u32 (z3 : Int)) rfl (shr_32c (n := z2) Hz3.out HZL.out rfl rfl) ?_ | refine wl_at 31 rfl (.int .i64 (n3 : Int)) rfl (sub_ii (i := n2) (j := 8) Hn3.out rfl rfl rfl) ?_)
     refine ⟨⟨_, _, _, _, _, _, _, _, _, _, _, _, _, _, ?rel, rfl⟩, ?measure⟩
     case rel => exact ⟨m2 + 1, n3, by rw [HE.out.1], rfl, ⟨⟨by have := HJ.out; have := Hn3.out; omega, by have := HJ.out; have := Hn3.out; omega, HO.out.2, HO.out.1⟩⟩⟩
     case measure => (have := Hn3.out; simp [intOf]; omega)
    ·have h8i : ¬ (8 : Int) ≤ (n2 : Int) := by omega
     go_wp2
     go_roundw
     case rel => exact ⟨k + 1, m2, n2, by omega, by go_num, rfl, rfl, ⟨⟨HI.out.1, by omega, HI.out.2.2⟩⟩⟩
     case measure => simp [intOf]; omega
  ·have hlt2 : ¬ (k : Int) < 256 := by omega
   have HF : Shh (m = L ∧ k = 256) := by
    have h1 := HI.out.1
    have h2 : k = 256 := by omega
    rw [h2] at h1
    have h3 := hL.out
    have h4 := HI.out.2.1
    exact ⟨by omega, h2⟩
   have hown := HI.out.2.2.2
   rw [HF.out.1, HF.out.2] at hown
   have HO := Shh.mk (And.intro hown HI.out.2.2.1)
   clear hown HI
   go_wp2
   go_ret
   refine ⟨_, rfl, ?_, ?_⟩
   ·rw [hN, litB_length]
    exact HO.out.1
   ·rw [hN]
    exact HO.out.2
end Go.Proofs.Ytfcgdjgfdbcddaa

/-
 THE PROGRAM'S OWN Encode.
-/
namespace Go.Proofs.Ytfcgdjgfdbcddaa
open Go.RowKit
set_option maxRecDepth 100000
/-- what is encoded of a coefficient -/
def encF (d : Nat) (p : Nat → Nat) (i : Nat) : Nat := (if d = 12 then p i % 3329 else p i) % 2 ^ d
def encB (d : Nat) (p : Nat → Nat) : List UInt8 := litB (sumN (encF d p) (2 ^ d) 256) (32 * d)
theorem encB_length (d : Nat) (p : Nat → Nat) : (encB d p).length = 32 * d := litB_length _ _
theorem encF_lt (d : Nat) (p : Nat → Nat) (i : Nat) : encF d p i < 2 ^ d := Nat.mod_lt _ (Nat.two_pow_pos d)
set_option maxHeartbeats 1000000 in
theorem Encode_any (d : Nat) (hd : 1 ≤ d ∧ d ≤ 12) (p : Nat → Nat) (hp : ∀ i, i < 256 → p i < 65536) (w : World) : Calls Try.prog 32 #[.int .i64 (d : Int), polyV p] w (PutIs w 0 (encB d p)) := by
 unfold PutIs polyV
 generalize hN : w.heap.size = N at *
 have i1 : ¬ (d : Int) < 1 := by omega
 have i2 : ¬ (12 : Int) < (d : Int) := by omega
 have HL0 : Shh (Row (w.alloc (.cells (pc p).toArray 24)) N 24 (pc p) ∧ Below N w (w.alloc (.cells (pc p).toArray 24))) := by
  refine ⟨Row.new_ hN.symm rfl, ?_⟩
  rw [← hN]
  exact bel1 _ _
 by_cases h12 : d = 12
 ·subst h12
  have HR : Shh (∀ W, Calls Try.prog 14 #[.agg (pc p).toArray] W (PolyIs W (redN p))) := ⟨fun W => Reduce_any p hp W⟩
  have HC : Shh (∀ W, Calls Try.prog 51 #[.int .i64 12, .agg (pc (redN p)).toArray] W (OwnIs W (encB 12 p))) := ⟨fun W => by
   have h := packed_any 12 hd (redN p) (fun i _ => Nat.lt_trans (rd_lt _) (by decide)) W
   unfold encB
   rw [show encF 12 p = fun i => redN p i % 2 ^ 12 from funext fun i => by unfold encF redN; rw [if_pos rfl, rd_same]]
   exact h⟩
  generalize encB 12 p = bs at *
  generalize redN p = r at *
  clear hp hd i1 i2
  go_enter Try.func32, Try.ntmps32
  go_wp2_with (first | refine wpList_load_any rfl 24 (.tmp 3) rfl N rfl 24 (pc p) (.array 256 22) HL0.out.1 Try.underlying24 rfl (info_poly.trans (size_poly p)) ?_ | (go_at_call 14; refine (HR.out _).mono ?_))
  rintro e w2 ⟨rfl, b2⟩
  have HI : Shh (Row w2 N 24 (pc p) ∧ Below N w w2) := ⟨HL0.out.1.go b2, HL0.out.2.trans (b2.mono (by have := HL0.out.1.lt; omega))⟩
  clear b2 HL0 HR
  go_wp2_with (refine wpList_store_any rfl 24 (.tmp 3) (.tmp 15) rfl N rfl (pc r) rfl 24 _ HI.out.1 (info_poly.trans (size_poly r)) (by rw [pc_length, pc_length]) (pc_one r) ?_)
  intro w3 r3 b3 z3
  have HJ : Shh (Row w3 N 24 (pc r) ∧ Below N w w3) := ⟨r3, HI.out.2.trans (b3.under (Nat.le_of_lt HI.out.1.lt) (Nat.le_refl _))⟩
  clear r3 b3 z3 HI
  go_wp2_with (first | refine wpList_load_any rfl 24 (.tmp 3) rfl N rfl 24 (pc r) (.array 256 22) HJ.out.1 Try.underlying24 rfl (info_poly.trans (size_poly r)) ?_ | (go_at_call 51; refine (HC.out _).mono ?_))
  rintro e w4 ⟨v, rfl, ho, hb⟩
  have HO : Shh (w4.ownsRow N 5 1 v bs.length (Lib.byteCells bs) ∧ Below N w w4) := ⟨own_mono ho (Nat.le_of_lt HJ.out.1.lt), HJ.out.2.trans (hb.mono (Nat.le_of_lt HJ.out.1.lt))⟩
  clear ho hb HJ
  go_wp2
  go_ret2
  refine ⟨_, rfl, ?_, ?_⟩
  ·rw [hN]
   exact HO.out.1
  ·rw [hN]
   exact HO.out.2
 ·have HC : Shh (∀ W, Calls Try.prog 51 #[.int .i64 (d : Int), .agg (pc p).toArray] W (OwnIs W (encB d p))) := ⟨fun W => by
   have h := packed_any d hd p hp W
   unfold encB
   rw [show encF d p = fun i => p i % 2 ^ d from funext fun i => by unfold encF; rw [if_neg h12]]
   exact h⟩
  generalize encB d p = bs at *
  have hd12 : ¬ (d : Int) = 12 := by omega
  clear hp hd h12
  go_enter Try.func32, Try.ntmps32
  go_wp2_with (first | refine wpList_load_any rfl 24 (.tmp 3) rfl N rfl 24 (pc p) (.array 256 22) HL0.out.1 Try.underlying24 rfl (info_poly.trans (size_poly p)) ?_ | (go_at_call 51; refine (HC.out _).mono ?_))
  rintro e w4 ⟨v, rfl, ho, hb⟩
  have HO : Shh (w4.ownsRow N 5 1 v bs.length (Lib.byteCells bs) ∧ Below N w w4) := ⟨own_mono ho (Nat.le_of_lt HL0.out.1.lt), HL0.out.2.trans (hb.mono (Nat.le_of_lt HL0.out.1.lt))⟩
  clear ho hb HL0
  go_wp2
  go_ret2
  refine ⟨_, rfl, ?_, ?_⟩
  ·rw [hN]
   exact HO.out.1
  ·rw [hN]
   exact HO.out.2
set_option maxHeartbeats 1000000 in
theorem Encode_bad (n : Int) (hn : n < 1 ∨ 12 < n) (p : Nat → Nat) (w : World) : Calls Try.prog 32 #[.int .i64 n, polyV p] w (PutIs w 1 []) := by
 unfold PutIs polyV
 have HB : Shh (Below w.heap.size w (w.alloc (.cells (pc p).toArray 24))) := ⟨bel1 _ _⟩
 have HO := Shh.mk (World.ownsRow_nil (w.alloc (.cells (pc p).toArray 24)) w.heap.size 5 1)
 go_enter Try.func32, Try.ntmps32
 by_cases h1 : n < 1
 ·clear hn
  go_wp2
  go_ret2
  exact ⟨_, rfl, HO.out, HB.out⟩
 ·have h2 : 12 < n := by omega
  clear hn
  go_wp2
  go_ret2
  exact ⟨_, rfl, HO.out, HB.out⟩
end Go.Proofs.Ytfcgdjgfdbcddaa

/-
 THE DOCUMENT'S OWN Encode.
-/
namespace Go.Proofs.Ytfcgdjgfdbcddaa
open Go.RowKit
set_option maxRecDepth 100000
theorem bit_div (c j : Nat) : (((c / 2 ^ j % 2 : Nat) : Int) == 1) = c.testBit j := by
 rw [Nat.testBit_eq_decide_div_mod_eq]
 generalize c / 2 ^ j % 2 = r
 by_cases h : r = 1
 ·rw [h]
  rfl
 ·rw [decide_eq_false h]
  exact beq_false_of_ne (by omega)
theorem eql_12 {a : Act} {x : Operand} {op : Oper} {w : World} {n : Nat} (h : n = 12) (ho : op.op = .binOp .eql 3 x (.const (.int .i64 12)) 3) (hx : a.eval x = .int .i64 (n : Int)) : (execOp a.eval op).run Try.prog w = .ok (.value (.bool true)) w := by
 subst h
 have hc : a.eval (.const (.int .i64 12)) = .int .i64 12 := rfl
 unfold execOp
 simp only [ho, hx, hc]
 go_simp
theorem neq_12 {a : Act} {x : Operand} {op : Oper} {w : World} {n : Nat} (h : ¬ n = 12) (ho : op.op = .binOp .eql 3 x (.const (.int .i64 12)) 3) (hx : a.eval x = .int .i64 (n : Int)) : (execOp a.eval op).run Try.prog w = .ok (.value (.bool false)) w := by
 have hc : a.eval (.const (.int .i64 12)) = .int .i64 12 := rfl
 have h2 : ((n : Int) == 12) = false := beq_false_of_ne (by omega)
 unfold execOp
 simp only [ho, hx, hc]
 go_simp
set_option maxHeartbeats 2000000 in
theorem refEncode_any (d : Nat) (hd : 1 ≤ d ∧ d ≤ 12) (p : Nat → Nat) (hp : ∀ i, i < 256 → p i < 65536) (w : World) : Calls Try.prog 33 #[.int .i64 (d : Int), polyV p] w (PutIs w 0 (encB d p)) := by
 obtain ⟨i0, hi, hz0, hz1, hz2⟩ := info_parts info_bool
 unfold PutIs polyV
 generalize hN : w.heap.size = N at *
 have i1 : ¬ (d : Int) < 1 := by omega
 have i2 : ¬ (12 : Int) < (d : Int) := by omega
 obtain ⟨P, hPP⟩ : ∃ P, Shh (P = 2 ^ d) := ⟨_, ⟨rfl⟩⟩
 have HPB : Shh (0 < P ∧ P ≤ 4096) := ⟨by rw [hPP.out]; exact Nat.two_pow_pos d, by rw [hPP.out]; exact Nat.le_trans (Nat.pow_le_pow_right (by decide) hd.2) (by decide)⟩
 have HWD : Shh (∀ W, Calls Try.prog 50 #[.int .i64 (d : Int)] W (NumIs W P)) := ⟨fun W => by rw [hPP.out]; exact width_any d (by omega) W⟩
 obtain ⟨f, hf⟩ : ∃ f : Nat → Nat, Shh (f = encF d p) := ⟨_, ⟨rfl⟩⟩
 have HFL : Shh (∀ i, f i < 2 ^ d) := ⟨fun i => by rw [hf.out]; exact encF_lt d p i⟩
 have HF1 : Shh (∀ i, (d = 12 → f i = p i % 3329) ∧ (¬ d = 12 → f i = p i % P)) := ⟨fun i => ⟨fun h => by rw [hf.out]; unfold encF; rw [if_pos h, h, Nat.mod_eq_of_lt (Nat.lt_trans (Nat.mod_lt _ (by decide)) (by decide))], fun h => by rw [hf.out, hPP.out]; unfold encF; rw [if_neg h]⟩⟩
 obtain ⟨A, hA⟩ : ∃ A : Nat → Nat, Shh (A = sumN f (2 ^ d)) := ⟨_, ⟨rfl⟩⟩
 have HB1 : Shh (∀ k j, (A (k + 1)).testBit (d * k + j) = (f k).testBit j) := ⟨fun k j => by rw [hA.out]; exact sumN_bit d k j HFL.out⟩
 have HB2 : Shh (∀ k, bitN (A (k + 1)) (d * k) = bitN (A k) (d * k)) := ⟨fun k => bitN_of fun i hi => by rw [hA.out]; exact sumN_below d k i HFL.out hi⟩
 have HEB : Shh (fromBits (bitN (A 256) (d * 256)) = encB d p) := ⟨by rw [show d * 256 = 8 * (32 * d) by omega, fromBits_bitN, hA.out, hf.out]; rfl⟩
 generalize encB d p = bs at *
 have HD := Shh.mk hd
 have HPX := Shh.mk hp
 clear hA hf hp hd hPP
 have HL0 : Shh (Row ((w.alloc (.cells (pc p).toArray 24)).alloc (.cells #[] 4)) N 24 (pc p) ∧ Below N w ((w.alloc (.cells (pc p).toArray 24)).alloc (.cells #[] 4)) ∧ ((w.alloc (.cells (pc p).toArray 24)).alloc (.cells #[] 4)).ownsRow (N + 1) 4 1 (.slice (some ⟨(w.alloc (.cells (pc p).toArray 24)).heap.size, 0, none⟩) 0 0) 0 (boolCells (bitN (A 0) (d * 0)))) := by
  refine ⟨(Row.new_ hN.symm rfl).alloc _, ?_, ?_⟩
  ·rw [← hN]
   exact Below.chain (bel1 _ _) (bel1 _ _)
  ·exact World.ownsRow_made (w.alloc (.cells (pc p).toArray 24)) #[] 0 (by rw [asz, hN]; exact Nat.le_refl _) (Nat.zero_le _) rfl
 rw [asz, hN] at HL0
 go_enter Try.func33, Try.ntmps33
 go_wp2
 go_loopw [6, 8, 16] (fun l _ i wr => ∃ k : Nat, k ≤ 256 ∧ i = .int .i64 (k : Int) ∧ Shh (Row wr N 24 (pc p) ∧ Below N w wr ∧ wr.ownsRow (N + 1) 4 1 l (d * k) (boolCells (bitN (A k) (d * k))))) (fun _ _ i _ => 256 - (intOf i).toNat)
 case atStart => exact ⟨0, Nat.zero_le _, rfl, HL0⟩
 case round =>
  clear HL0
  obtain ⟨k, hk, rfl, HI⟩ := hrel
  by_cases hlt : k < 256
  ·have hlt2 : (k : Int) < 256 := by omega
   have HPK := Shh.mk (HPX.out k hlt)
   have HF2 := Shh.mk (HF1.out k)
   have HBK := Shh.mk (HB1.out k)
   have c1 := HI.out.1.drew.cell k
   rw [pc_get _ hlt] at c1
   have HI1 : Shh (wr.ownsRow (N + 1) 4 1 u6 (d * k) (boolCells (bitN (A (k + 1)) (d * k)))) := ⟨by rw [HB2.out]; exact HI.out.2.2⟩
   obtain ⟨pk, Hpk⟩ : ∃ v, Shh (v = p k) := ⟨_, ⟨rfl⟩⟩
   rw [← Hpk.out] at HPK HF2 c1
   obtain ⟨fk, Hfk⟩ : ∃ v, Shh (v = f k) := ⟨_, ⟨rfl⟩⟩
   rw [← Hfk.out] at HF2 HBK
   obtain ⟨m, Hm⟩ : ∃ m, Shh (m = pk % P) := ⟨_, ⟨rfl⟩⟩
   have HFB : Shh (fk < 2 ^ d ∧ fk ≤ 4096) := ⟨by rw [Hfk.out]; exact HFL.out k, by have h1 := HFL.out k; have h2 : 2 ^ d ≤ 2 ^ 12 := Nat.pow_le_pow_right (by decide) HD.out.2; have h3 : 2 ^ 12 = 4096 := rfl; rw [Hfk.out]; omega⟩
   have HPL : Shh (pk ≤ 1000000000000 ∧ 0 < P) := ⟨by have := HPK.out; omega, HPB.out.1⟩
   have HC := Shh.mk c1
   clear c1 Hpk Hfk
   go_wp2
   refine wp_region_held_drew (S := fun w' => w'.cell? ⟨N, k, none⟩ = some (.int .u16 (pk : Int))) (by kernel_rfl) HC.out (fun hS => ?_)
   clear hS
   obtain ⟨U, hU⟩ : ∃ V, V = World.drew wr := ⟨_, rfl⟩
   rw [← hU] at HC ⊢
   have HIU : Shh (Row U N 24 (pc p) ∧ Below N w U ∧ U.ownsRow (N + 1) 4 1 u6 (d * k) (boolCells (bitN (A (k + 1)) (d * k)))) := by rw [hU]; exact ⟨HI.out.1.drew, HI.out.2.1.drew, HI1.out⟩
   clear HI HI1 hU
   refine hdv0 0 19 (.int .i64 (k : Int)) (by rfl) (HC.out) ?_
   refine hdv 1 20 (.pointer (some ⟨N, k, none⟩)) (by rfl) (fun w hS => at_poly hlt rfl (by kernel_rfl) (by kernel_rfl)) (HC.out) ?_
   refine hdv 2 21 (.int .u16 (pk : Int)) (by rfl) (fun w hS => load_u16 rfl hS (by kernel_rfl)) (HC.out) ?_
   refine hdv 3 22 (.int .i64 (pk : Int)) (by rfl) (fun w hS => conv_ui16 HPK.out rfl (by kernel_rfl)) (HC.out) ?_
   refine hdv0 4 23 (.int .i64 (d : Int)) (by rfl) (HC.out) ?_
   refine held_one 5 (by kernel_rfl) ?_
   refine step_call 5 _ _ (some 24) 50 #[.int .i64 (d : Int)] (by rfl) (by kernel_rfl) (by first | kernel_rfl | go_simp) ?_
   refine (HWD.out U).mono ?_
   rintro e Y1 ⟨rfl, hq⟩
   obtain rfl : U = Y1 := hq
   refine ⟨_, rfl, HC.out, ?_⟩
   simp only [Act.put, arr9, hd9, tl9]
   refine hdv 6 25 (.int .i64 (m : Int)) (by rfl) (fun w hS => rem_ij (i := pk) (j := P) Hm.out HPL.out.2 HPL.out.1 rfl (by kernel_rfl) (by kernel_rfl)) (HC.out) ?_
   refine hdv0 7 8 (.int .i64 (m : Int)) (by rfl) (HC.out) ?_
   refine wpAnyH_done (by kernel_rfl) ?_ _
   by_cases h12 : d = 12
   ·have H12 := Shh.mk h12
    clear h12
    have HR := Shh.mk (HF2.out.1 H12.out)
    go_wp2_with (first | refine wl_at 27 rfl (.bool true) rfl (eql_12 H12.out rfl rfl) ?_ | refine wl_at 29 rfl (.pointer (some ⟨N, k, none⟩)) rfl (at_poly hlt rfl rfl rfl) ?_ | refine wl_at 30 rfl (.int .u16 (pk : Int)) rfl (load_u16 rfl HC.out rfl) ?_ | refine wl_at 31 rfl (.int .i64 (pk : Int)) rfl (conv_ui16 HPK.out rfl rfl) ?_ | refine wl_at 32 rfl (.int .i64 (fk : Int)) rfl (rem_iq (n := pk) HR.out HPL.out.1 rfl rfl) ?_)
    go_loopw [6, 8, 34] (fun l n i wr => ∃ j : Nat, j ≤ d ∧ i = .int .i64 (j : Int) ∧ n = .int .i64 ((fk / 2 ^ j : Nat) : Int) ∧ Shh (Row wr N 24 (pc p) ∧ Below N w wr ∧ wr.ownsRow (N + 1) 4 1 l (d * k + j) (boolCells (bitN (A (k + 1)) (d * k + j))))) (fun _ _ i _ => d - (intOf i).toNat)
    case atStart => exact ⟨0, Nat.zero_le _, rfl, by rw [Nat.pow_zero, Nat.div_one], HIU⟩
    case round =>
     clear HIU HC
     obtain ⟨j, hj, rfl, rfl, HI⟩ := hrel
     by_cases hjt : j < d
     ·have hjt2 : (j : Int) < (d : Int) := by omega
      obtain ⟨c, Hc⟩ : ∃ c, Shh (c = fk / 2 ^ j) := ⟨_, ⟨rfl⟩⟩
      rw [← Hc.out]
      have HCL : Shh (c ≤ 1000000000000) := ⟨by rw [Hc.out]; exact Nat.le_trans (Nat.div_le_self _ _) (by have := HFB.out; omega)⟩
      obtain ⟨r, Hr⟩ : ∃ r, Shh (r = c % 2) := ⟨_, ⟨rfl⟩⟩
      obtain ⟨c2, Hc2⟩ : ∃ c2, Shh (c2 = c / 2) := ⟨_, ⟨rfl⟩⟩
      have HE : Shh (c2 = fk / 2 ^ (j + 1) ∧ ((r : Int) == 1) = (A (k + 1)).testBit (d * k + j)) := ⟨by rw [Hc2.out, Hc.out, Nat.pow_succ, Nat.div_div_eq_div_mul], by rw [Hr.out, Hc.out, HBK.out, bit_div]⟩
      have HS2 : Shh (boolCells (bitN (A (k + 1)) (d * k + j)) ++ [Value.bool ((A (k + 1)).testBit (d * k + j))] = boolCells (bitN (A (k + 1)) (d * k + (j + 1)))) := ⟨by rw [← Nat.add_assoc, bitN_snoc, boolCells_append]; rfl⟩
      have hbn := HI.out.2.1
      have hrow := HI.out.1
      have hsz : N + 1 ≤ wr.heap.size := hrow.lt
      have hml : d * k + j + 1 ≤ 140737488355328 := by
       have h2 : d * k ≤ 12 * 256 := Nat.mul_le_mul HD.out.2 (by omega)
       have h3 := HD.out
       omega
      have hown := HI.out.2.2
      clear HI
      generalize boolCells (bitN (A (k + 1)) (d * k + j)) = xs at *
      go_wp2_with (first | refine wl_at 38 rfl (.int .i64 (r : Int)) rfl (rem_i2 (n := c) Hr.out HCL.out rfl rfl) ?_ | (at_builtin; refine wp_append1 _ 56 4 i0 (.bool false) Try.underlying56 hi hz0 hz1 hz2 rfl rfl _ _ rfl hown rfl rfl rfl hml hsz ?_))
      intro v' w1 hown2 _ hb1
      rw [HE.out.2, HS2.out] at hown2
      have hb2 := hb1 (N + 1) (Nat.le_refl _)
      have HO : Shh (Row w1 N 24 (pc p) ∧ Below N w w1 ∧ w1.ownsRow (N + 1) 4 1 v' (d * k + (j + 1)) (boolCells (bitN (A (k + 1)) (d * k + (j + 1))))) := ⟨hrow.below hb2 (Nat.lt_succ_self _), hbn.trans (hb2.mono (Nat.le_succ _)), hown2⟩
      clear hown hown2 hb1 hb2 hbn hrow hsz hml
      go_wp2_with (first | refine wl_at 43 rfl (.int .i64 (c2 : Int)) rfl (quo_i2 (n := c) Hc2.out HCL.out rfl rfl) ?_)
      go_roundw
      case rel => exact ⟨j + 1, by omega, by go_num, by rw [HE.out.1], HO⟩
      case measure => simp [intOf]; omega
     ·have hjt2 : ¬ (j : Int) < (d : Int) := by omega
      have HO : Shh (Row wr N 24 (pc p) ∧ Below N w wr ∧ wr.ownsRow (N + 1) 4 1 u6 (d * (k + 1)) (boolCells (bitN (A (k + 1)) (d * (k + 1))))) := by
       have h := HI
       rw [show j = d by omega, ← Nat.mul_succ] at h
       exact h
      clear HI
      go_wp2
      go_roundw
      case rel => exact ⟨k + 1, by omega, by go_num, HO⟩
      case measure => simp [intOf]; omega
   ·have H12 := Shh.mk h12
    have hmf : fk = m := (HF2.out.2 h12).trans Hm.out.symm
    subst hmf
    clear h12
    go_wp2_with (refine wl_at 27 rfl (.bool false) rfl (neq_12 H12.out rfl rfl) ?_)
    go_loopw [6, 8, 34] (fun l n i wr => ∃ j : Nat, j ≤ d ∧ i = .int .i64 (j : Int) ∧ n = .int .i64 ((fk / 2 ^ j : Nat) : Int) ∧ Shh (Row wr N 24 (pc p) ∧ Below N w wr ∧ wr.ownsRow (N + 1) 4 1 l (d * k + j) (boolCells (bitN (A (k + 1)) (d * k + j))))) (fun _ _ i _ => d - (intOf i).toNat)
    case atStart => exact ⟨0, Nat.zero_le _, rfl, by rw [Nat.pow_zero, Nat.div_one], HIU⟩
    case round =>
     clear HIU HC
     obtain ⟨j, hj, rfl, rfl, HI⟩ := hrel
     by_cases hjt : j < d
     ·have hjt2 : (j : Int) < (d : Int) := by omega
      obtain ⟨c, Hc⟩ : ∃ c, Shh (c = fk / 2 ^ j) := ⟨_, ⟨rfl⟩⟩
      rw [← Hc.out]
      have HCL : Shh (c ≤ 1000000000000) := ⟨by rw [Hc.out]; exact Nat.le_trans (Nat.div_le_self _ _) (by have := HFB.out; omega)⟩
      obtain ⟨r, Hr⟩ : ∃ r, Shh (r = c % 2) := ⟨_, ⟨rfl⟩⟩
      obtain ⟨c2, Hc2⟩ : ∃ c2, Shh (c2 = c / 2) := ⟨_, ⟨rfl⟩⟩
      have HE : Shh (c2 = fk / 2 ^ (j + 1) ∧ ((r : Int) == 1) = (A (k + 1)).testBit (d * k + j)) := ⟨by rw [Hc2.out, Hc.out, Nat.pow_succ, Nat.div_div_eq_div_mul], by rw [Hr.out, Hc.out, HBK.out, bit_div]⟩
      have HS2 : Shh (boolCells (bitN (A (k + 1)) (d * k + j)) ++ [Value.bool ((A (k + 1)).testBit (d * k + j))] = boolCells (bitN (A (k + 1)) (d * k + (j + 1)))) := ⟨by rw [← Nat.add_assoc, bitN_snoc, boolCells_append]; rfl⟩
      have hbn := HI.out.2.1
      have hrow := HI.out.1
      have hsz : N + 1 ≤ wr.heap.size := hrow.lt
      have hml : d * k + j + 1 ≤ 140737488355328 := by
       have h2 : d * k ≤ 12 * 256 := Nat.mul_le_mul HD.out.2 (by omega)
       have h3 := HD.out
       omega
      have hown := HI.out.2.2
      clear HI
      generalize boolCells (bitN (A (k + 1)) (d * k + j)) = xs at *
      go_wp2_with (first | refine wl_at 38 rfl (.int .i64 (r : Int)) rfl (rem_i2 (n := c) Hr.out HCL.out rfl rfl) ?_ | (at_builtin; refine wp_append1 _ 56 4 i0 (.bool false) Try.underlying56 hi hz0 hz1 hz2 rfl rfl _ _ rfl hown rfl rfl rfl hml hsz ?_))
      intro v' w1 hown2 _ hb1
      rw [HE.out.2, HS2.out] at hown2
      have hb2 := hb1 (N + 1) (Nat.le_refl _)
      have HO : Shh (Row w1 N 24 (pc p) ∧ Below N w w1 ∧ w1.ownsRow (N + 1) 4 1 v' (d * k + (j + 1)) (boolCells (bitN (A (k + 1)) (d * k + (j + 1))))) := ⟨hrow.below hb2 (Nat.lt_succ_self _), hbn.trans (hb2.mono (Nat.le_succ _)), hown2⟩
      clear hown hown2 hb1 hb2 hbn hrow hsz hml
      go_wp2_with (first | refine wl_at 43 rfl (.int .i64 (c2 : Int)) rfl (quo_i2 (n := c) Hc2.out HCL.out rfl rfl) ?_)
      go_roundw
      case rel => exact ⟨j + 1, by omega, by go_num, by rw [HE.out.1], HO⟩
      case measure => simp [intOf]; omega
     ·have hjt2 : ¬ (j : Int) < (d : Int) := by omega
      have HO : Shh (Row wr N 24 (pc p) ∧ Below N w wr ∧ wr.ownsRow (N + 1) 4 1 u6 (d * (k + 1)) (boolCells (bitN (A (k + 1)) (d * (k + 1))))) := by
       have h := HI
       rw [show j = d by omega, ← Nat.mul_succ] at h
       exact h
      clear HI
      go_wp2
      go_roundw
      case rel => exact ⟨k + 1, by omega, by go_num, HO⟩
      case measure => simp [intOf]; omega
  ·have hlt2 : ¬ (k : Int) < 256 := by omega
   have HO : Shh (Slb wr wr.heap.size u6 (bitN (A 256) (d * 256)) ∧ (bitN (A 256) (d * 256)).length ≤ 1099511627776) := by
    have h := HI.out.2.2
    rw [show k = 256 by omega] at h
    refine ⟨Slb.of_own (own_base (own_len h (bitN_length _ _).symm) (Nat.le_refl _)), ?_⟩
    rw [bitN_length]
    have := HD.out
    omega
   have HFM := Shh.mk (refFromBits_any wr.heap.size u6 (bitN (A 256) (d * 256)) wr HO.out.1 (Nat.le_refl _) HO.out.2)
   rw [HEB.out] at HFM
   clear HO HEB HB1 HB2
   go_wp2_with (go_at_call 52; refine (HFM.out).mono ?_)
   rintro e w4 ⟨v, rfl, ho, hb⟩
   have HO : Shh (w4.ownsRow N 5 1 v bs.length (Lib.byteCells bs) ∧ Below N w w4) := ⟨own_mono ho (Nat.le_of_lt HI.out.1.lt), HI.out.2.1.trans (hb.mono (Nat.le_of_lt HI.out.1.lt))⟩
   clear ho hb HI HFM
   go_wp2
   go_ret2
   refine ⟨_, rfl, ?_, ?_⟩
   ·rw [hN]
    exact HO.out.1
   ·rw [hN]
    exact HO.out.2
set_option maxHeartbeats 1000000 in
theorem refEncode_bad (n : Int) (hn : n < 1 ∨ 12 < n) (p : Nat → Nat) (w : World) : Calls Try.prog 33 #[.int .i64 n, polyV p] w (PutIs w 1 []) := by
 unfold PutIs polyV
 have HB : Shh (Below w.heap.size w (w.alloc (.cells (pc p).toArray 24))) := ⟨bel1 _ _⟩
 have HO := Shh.mk (World.ownsRow_nil (w.alloc (.cells (pc p).toArray 24)) w.heap.size 5 1)
 go_enter Try.func33, Try.ntmps33
 by_cases h1 : n < 1
 ·clear hn
  go_wp2
  go_ret2
  exact ⟨_, rfl, HO.out, HB.out⟩
 ·have h2 : 12 < n := by omega
  clear hn
  go_wp2
  go_ret2
  exact ⟨_, rfl, HO.out, HB.out⟩
end Go.Proofs.Ytfcgdjgfdbcddaa

/-
 THE PROGRAM'S OWN unpacked: coefficients of d bits out of bytes.
-/
namespace Go.Proofs.Ytfcgdjgfdbcddaa
open Go.RowKit
set_option maxRecDepth 100000
section
variable {a : Act} {x y : Operand} {op : Oper} {w : World}
theorem conv_8_32 {n : Nat} (hn : n < 256) (ho : op.op = .convert 5 54 x) (hx : a.eval x = .int .u8 (n : Int)) : (execOp a.eval op).run Try.prog w = .ok (.value (.int .u32 (n : Int))) w := by
 have hw : IntKind.u32.wrap (n : Int) = (n : Int) := by rw [IntKind.wrap_u32]; omega
 have hm : (n : Int) % 4294967296 = (n : Int) := by omega
 unfold execOp
 simp only [ho, hx]
 go_simp
end
set_option maxHeartbeats 2000000 in
theorem unpacked_any (d : Nat) (hd : 1 ≤ d ∧ d ≤ 12) (B : Nat) (v : Value) (bs : List UInt8) (hl : bs.length = 32 * d) (w : World) (hs : Sl w B v bs) (hB : B ≤ w.heap.size) : Calls Try.prog 53 #[.int .i64 (d : Int), v] w (PolyIs w (decN d (litN bs))) := by
 unfold PolyIs polyV
 generalize hN : w.heap.size = N at *
 obtain ⟨V, hV⟩ : ∃ V, Shh (V = litN bs) := ⟨_, ⟨rfl⟩⟩
 have HBY : Shh (∀ m (h : m < bs.length), V / 256 ^ m % 256 = (bs[m]).toNat) := ⟨fun m h => by rw [hV.out]; exact litN_byte bs m h⟩
 rw [← hV.out]
 obtain ⟨r, hr⟩ : ∃ r : Nat → Nat, Shh (r = decN d V) := ⟨_, ⟨rfl⟩⟩
 have HR : Shh (∀ k, r k = V / 2 ^ (d * k) % 2 ^ d ∧ r k < 65536) := ⟨fun k => by
  rw [hr.out]
  refine ⟨rfl, Nat.lt_of_lt_of_le (decN_lt d V k) (Nat.le_trans (Nat.pow_le_pow_right (by decide) hd.2) (by decide))⟩⟩
 rw [← hr.out]
 have HD := Shh.mk (And.intro hd (And.intro hl hB))
 have HS0 := Shh.mk hs
 have HLO : Shh (∀ n : Nat, n < 65536 → ∀ W, Calls Try.prog 49 #[.int .i64 (d : Int), .int .u16 (n : Int)] W (U16Is W (n % 2 ^ d))) := ⟨fun n hn W => low_any d n (by omega) hn W⟩
 clear hr hV hd hl hB hs
 obtain ⟨W, hW⟩ : ∃ W, W = (w.alloc (.cells (pc fun _ => 0).toArray 24)).alloc (.cells (pc fun _ => 0).toArray 24) := ⟨_, rfl⟩
 have HW : Shh (Row W N 24 (pc fun _ => 0) ∧ Row W (N + 1) 24 (pc (half r (fun _ => 0) 0)) ∧ Below N w W ∧ Sl W B v (bs.drop 0)) := by
  have hb : Below N w W := by
   rw [hW, ← hN]
   exact Below.chain (bel1 _ _) (bel1 _ _)
  refine ⟨by rw [hW]; exact (Row.new_ hN.symm rfl).alloc _, by rw [hW, half_zero]; exact Row.new_ (by rw [asz, hN]) rfl, hb, ?_⟩
  rw [List.drop_zero]
  exact HS0.out.below (hb.mono HD.out.2.2)
 go_enter Try.func53, Try.ntmps53
 go_wp2_with (refine wl_allocP rfl rfl ?_)
 try simp only [asz, hN]
 rw [← hW]
 clear hW HS0
 go_wp2
 go_loopw [1, 6, 7, 9] (fun b s c i wr => ∃ k m n : Nat, k ≤ 256 ∧ i = .int .i64 (k : Int) ∧ s = .int .u32 ((V / 2 ^ (d * k) % 2 ^ n : Nat) : Int) ∧ c = .int .i64 (n : Int) ∧ Shh (d * k + n = 8 * m ∧ n < 8 ∧ Row wr N 24 (pc fun _ => 0) ∧ Row wr (N + 1) 24 (pc (half r (fun _ => 0) k)) ∧ Below N w wr ∧ Sl wr B b (bs.drop m))) (fun _ _ _ i _ => 256 - (intOf i).toNat)
 case atStart => exact ⟨0, 0, 0, Nat.zero_le _, rfl, by rw [Nat.pow_zero, Nat.mod_one]; rfl, rfl, ⟨⟨by omega, by decide, HW.out⟩⟩⟩
 case round =>
  clear HW
  obtain ⟨k, m, n, hk, rfl, rfl, rfl, HI⟩ := hrel
  by_cases hlt : k < 256
  ·have hlt2 : (k : Int) < 256 := by omega
   go_wp2
   go_loopw [1, 6, 7] (fun b s c wq => ∃ m n : Nat, s = .int .u32 ((V / 2 ^ (d * k) % 2 ^ n : Nat) : Int) ∧ c = .int .i64 (n : Int) ∧ Shh (d * k + n = 8 * m ∧ n < d + 8 ∧ wq = wr ∧ Sl wr B b (bs.drop m))) (fun _ _ c _ => d + 8 - (intOf c).toNat)
   case atStart => exact ⟨m, n, rfl, rfl, ⟨⟨HI.out.1, by have := HI.out.2.1; omega, rfl, HI.out.2.2.2.2.2⟩⟩⟩
   case round =>
    obtain ⟨m2, n2, rfl, rfl, HJ⟩ := hrel
    have hwr := HJ.out.2.2.1
    subst hwr
    by_cases hn : n2 < d
    ·have hn2 : (n2 : Int) < (d : Int) := by omega
     have hm : m2 < bs.length := by
      have h1 := HJ.out.1
      have h2 : d * (k + 1) ≤ d * 256 := Nat.mul_le_mul_left _ (by omega)
      rw [Nat.mul_succ] at h2
      have h3 := HD.out.2.1
      omega
     have HB1 := Shh.mk (HBY.out m2 hm)
     obtain ⟨A, cc, rfl, _, _⟩ := HJ.out.2.2.2.form
     have hlen : 0 < (bs.drop m2).length := by rw [List.length_drop]; omega
     obtain ⟨g, off, rfl, hg, hcc⟩ := HJ.out.2.2.2.at_ hlen
     have c1 := hcc 0 hlen
     rw [List.getElem_drop] at c1
     simp only [Nat.add_zero] at c1
     have hby : (bs[m2]).toNat < 256 := (bs[m2]).toNat_lt
     generalize (bs[m2]).toNat = q at *
     obtain ⟨x, Hx⟩ : ∃ x, Shh (x = V / 2 ^ (d * k) % 2 ^ n2) := ⟨_, ⟨rfl⟩⟩
     obtain ⟨z, Hz⟩ : ∃ z, Shh (z = V / 2 ^ (d * k) % 2 ^ (n2 + 8)) := ⟨_, ⟨rfl⟩⟩
     obtain ⟨n3, Hn3⟩ : ∃ n3, Shh (n3 = n2 + 8 ∧ n3 ≤ 1000000000000) := ⟨_, ⟨rfl, by have := HD.out; omega⟩⟩
     have e6 : 2 ^ n2 ≤ 4096 := Nat.le_trans (Nat.pow_le_pow_right (by decide) (show n2 ≤ 12 by have := HD.out; omega)) (by decide)
     have e7 : 2 ^ (n2 + 8) ≤ 1048576 := Nat.le_trans (Nat.pow_le_pow_right (by decide) (show n2 + 8 ≤ 20 by have := HD.out; omega)) (by decide)
     have e8 : q * 2 ^ n2 ≤ 256 * 4096 := Nat.mul_le_mul (Nat.le_of_lt hby) e6
     have HOR : Shh (z = x + q * 2 ^ n2 ∧ x < 2 ^ n2 ∧ z < 4294967296) := ⟨by rw [Hz.out, Hx.out, unpack_in V (d * k) n2 m2 HJ.out.1, HB1.out], by rw [Hx.out]; exact Nat.mod_lt _ (Nat.two_pow_pos _), by rw [Hz.out]; exact Nat.lt_of_lt_of_le (Nat.mod_lt _ (Nat.two_pow_pos _)) (by omega)⟩
     have HQ : Shh (q < 256 ∧ n2 ≤ 31 ∧ q * 2 ^ n2 < 4294967296 ∧ 1 ≤ (bs.drop m2).length) := ⟨hby, by have := HD.out; omega, by omega, hlen⟩
     rw [← Hx.out]
     clear e6 e7 e8 hcc hg Hx
     have HSL := Shh.mk HJ.out.2.2.2
     have HJ2 := Shh.mk (And.intro HJ.out.1 HJ.out.2.1)
     have HDR : Shh ((bs.drop m2).tail = bs.drop (m2 + 1)) := ⟨by rw [← List.drop_one, List.drop_drop]⟩
     clear HJ
     generalize hbd : bs.drop m2 = bd at *
     have HBD := Shh.mk hbd
     clear hbd
     generalize hln : bd.length = ln at *
     have HLN := Shh.mk hln
     clear hln
     go_wp2_with (first | refine wl_at 21 rfl (.int .u32 (q : Int)) rfl (conv_8_32 HQ.out.1 rfl rfl) ?_ | refine wl_at 23 rfl (.int .u32 ((q * 2 ^ n2 : Nat) : Int)) rfl (shl_32 (n := q) (d := n2) rfl HQ.out.2.1 HQ.out.2.2.1 rfl rfl rfl) ?_ | refine wl_at 24 rfl (.int .u32 (z : Int)) rfl (or_32 (n := x) (m := q) (c := n2) HOR.out.1 HOR.out.2.1 HOR.out.2.2 rfl rfl rfl) ?_ | refine wpList_slice_from rfl (.tmp 25) (.const (.int .i64 1)) rfl B _ rfl bd HSL.out 1 rfl (by rw [HLN.out]; exact HQ.out.2.2.2) ?_)
     intro v' hsl _
     rw [HDR.out] at hsl
     have HN3 := Shh.mk hsl
     clear hsl
     go_wp2_with (refine wl_at 16 rfl (.int .i64 (n3 : Int)) rfl (add_ii (i := n2) (j := 8) Hn3.out rfl rfl rfl) ?_)
     go_roundw
     case rel => exact ⟨m2 + 1, n3, by rw [Hz.out, Hn3.out.1], rfl, ⟨⟨by have := HJ2.out; have := Hn3.out; omega, by have := Hn3.out; omega, trivial, HN3.out⟩⟩⟩
     case measure => (have := Hn3.out; simp [intOf]; omega)
    ·have hn2 : ¬ (n2 : Int) < (d : Int) := by omega
     obtain ⟨f1, f2⟩ := unpack_out V (d * k) n2 d (by omega)
     have e6 : 2 ^ n2 ≤ 1048576 := Nat.le_trans (Nat.pow_le_pow_right (by decide) (show n2 ≤ 20 by have := HD.out; have := HJ.out; omega)) (by decide)
     have e7 : V / 2 ^ (d * k) % 2 ^ n2 < 2 ^ n2 := Nat.mod_lt _ (Nat.two_pow_pos _)
     obtain ⟨x, Hx⟩ : ∃ x, Shh (x = V / 2 ^ (d * k) % 2 ^ n2) := ⟨_, ⟨rfl⟩⟩
     rw [← Hx.out] at f1 f2 e7 ⊢
     obtain ⟨y, Hy⟩ : ∃ y, Shh (y = x % 65536) := ⟨_, ⟨rfl⟩⟩
     obtain ⟨x2, Hx2⟩ : ∃ x2, Shh (x2 = x / 2 ^ d) := ⟨_, ⟨rfl⟩⟩
     obtain ⟨n3, Hn3⟩ : ∃ n3, Shh (n2 = n3 + d ∧ n2 ≤ 1000000000000) := ⟨n2 - d, ⟨by omega, by have := HD.out; have := HJ.out; omega⟩⟩
     have hrk : y % 2 ^ d = r k := by
      rw [Hy.out, Nat.mod_mod_of_dvd _ (show 2 ^ d ∣ 65536 from Nat.pow_dvd_pow 2 (show d ≤ 16 by have := HD.out; omega)), f1, ← (HR.out k).1]
     have HC : Shh (∀ W, Calls Try.prog 49 #[.int .i64 (d : Int), .int .u16 (y : Int)] W (U16Is W (r k))) := ⟨fun W => by rw [← hrk]; exact HLO.out y (by have := Hy.out; omega) W⟩
     have HX : Shh (x < 4294967296 ∧ d ≤ 31 ∧ x2 = V / 2 ^ (d * (k + 1)) % 2 ^ n3) := ⟨by omega, by have := HD.out; omega, by rw [Hx2.out, f2, Nat.mul_succ]; congr 2; have := Hn3.out; omega⟩
     have HN2 := Shh.mk (half_next r (fun _ => 0) k)
     have HI2 := Shh.mk (And.intro HI.out.2.2 HJ.out)
     clear f1 f2 e6 e7 hrk HJ HI
     generalize r k = rk at *
     go_wp2_with (first | refine wl_at 30 rfl (.int .u16 (y : Int)) rfl (conv_32 (n := x) Hy.out rfl rfl) ?_ | (go_at_call 49; refine (HC.out _).mono ?_))
     rintro e w2 ⟨rfl, rfl⟩
     go_wp2_with (first | refine wl_at 32 rfl (.pointer (some ⟨N + 1, k, none⟩)) rfl (at_poly hlt rfl rfl rfl) ?_ | refine wl_storeP rfl hlt rfl rfl rfl HI2.out.1.2.1 ?_)
     intro w3 r3 b3 z3
     rw [HN2.out] at r3
     have hbn : B ≤ wr.heap.size := by have h1 := HI2.out.1.1.lt; have h2 := HD.out.2.2; omega
     have HO : Shh (Row w3 N 24 (pc fun _ => 0) ∧ Row w3 (N + 1) 24 (pc (half r (fun _ => 0) (k + 1))) ∧ Below N w w3 ∧ Sl w3 B u1 (bs.drop m2)) := ⟨b3.row HI2.out.1.1 HI2.out.1.1.lt (by omega), r3, HI2.out.1.2.2.1.trans (b3.under (Nat.le_of_lt HI2.out.1.1.lt) (Nat.le_succ _)), HI2.out.2.2.2.2.below (b3.under hbn (by have h2 := HD.out.2.2; omega))⟩
     clear r3 b3 z3 hbn
     go_wp2_with (first | refine wl_at 35 rfl (.int .u32 (x2 : Int)) rfl (shr_32 (n := x) (d := d) Hx2.out HX.out.2.1 HX.out.1 rfl rfl rfl) ?_ | refine wl_at 38 rfl (.int .i64 (n3 : Int)) rfl (sub_ii (i := n2) (j := d) Hn3.out rfl rfl rfl) ?_)
     go_roundw
     case rel => exact ⟨k + 1, m2, n3, by omega, by go_num, by rw [HX.out.2.2], rfl, ⟨⟨by have h1 := HI2.out.2.1; have h2 := Hn3.out; rw [Nat.mul_succ]; omega, by have h1 := HI2.out.2.2.1; have h2 := Hn3.out; omega, HO.out⟩⟩⟩
     case measure => simp [intOf]; omega
  ·have HL : Shh (pc (half r (fun _ => 0) k) = pc r) := ⟨by rw [show k = 256 by omega]; exact half_all _ _⟩
   have HI2 := Shh.mk HI.out.2.2
   rw [HL.out] at HI2
   have hlt2 : ¬ (k : Int) < 256 := by omega
   clear HI HL
   go_wp2_with (first
    | refine wpList_load_any rfl 24 (.tmp 5) rfl (N + 1) rfl 24 (pc r) (.array 256 22) HI2.out.2.1 Try.underlying24 rfl (info_poly.trans (size_poly r)) ?_
    | refine wpList_store_any rfl 24 (.tmp 4) (.tmp 40) rfl N rfl (pc r) rfl 24 _ HI2.out.1 (info_poly.trans (size_poly r)) (by rw [pc_length, pc_length]) (pc_one r) ?_)
   intro w9 hr9 b9 _
   have hb9 := HI2.out.2.2.1.trans (b9.under (Nat.le_of_lt HI2.out.1.lt) (Nat.le_refl _))
   go_wp2
   exact ret_row Try.results53 rfl rfl hr9 Try.underlying24 rfl (info_poly.trans (size_poly r)) ⟨rfl, hb9⟩
end Go.Proofs.Ytfcgdjgfdbcddaa

/-
 THE PROGRAM'S OWN Decode, Canon.
-/
namespace Go.Proofs.Ytfcgdjgfdbcddaa
open Go.RowKit
set_option maxRecDepth 100000
/-- what is decoded -/
def decF (d V i : Nat) : Nat := if d = 12 then decN d V i % 3329 else decN d V i
theorem decN_16 (d V i : Nat) (hd : d ≤ 12) : decN d V i < 65536 := Nat.lt_of_lt_of_le (decN_lt d V i) (Nat.le_trans (Nat.pow_le_pow_right (by decide) (show d ≤ 16 by omega)) (by decide))
theorem decF_16 (d V i : Nat) (hd : d ≤ 12) : decF d V i < 65536 := by
 unfold decF
 have h := decN_16 d V i hd
 split <;> omega
/-- are all numbers of 12 bits below q? -/
def canonB (bs : List UInt8) : Bool := decide (bs.length = 384) && (List.range 256).all fun i => decide (decN 12 (litN bs) i < 3329)
/-- the answer is a bool, and what was in memory stays -/
def BoolIs (w : World) (b : Bool) (e : Ending) (w' : World) : Prop := e = .returned (.bool b) ∧ Below w.heap.size w w'
theorem eq_poly2 (p q : Nat → Nat) (b : Bool) (hb : b = true ↔ ∀ i, i < 256 → p i = q i) (hp : ∀ i, i < 256 → p i < 65536) (hq : ∀ i, i < 256 → q i < 65536) (w : World) : (Op.equalIn 10000 24 (.agg (pc p).toArray) (.agg (pc q).toArray)).run Try.prog w = .ok b w := by
 have e : ∀ p : Nat → Nat, pc p = ((List.range 256).map fun i => (p i : Int)).map (Value.int .u16) := fun p => by simp [pc]
 have hwf : ∀ p : Nat → Nat, (∀ i, i < 256 → p i < 65536) → ∀ x ∈ ((List.range 256).map fun i => (p i : Int)), (Lit.int .u16 x).wf = true := fun p hp x hx => by
  obtain ⟨i, hi, rfl⟩ := List.mem_map.1 hx
  have h := hp i (List.mem_range.1 hi)
  simp [Lit.wf, IntKind.min, IntKind.max, IntKind.signed, IntKind.bits]
  omega
 rw [e p, e q, eq_arr (k := .u16) (n := 256) (e := 22) (by kernel_rfl) Try.underlying24 Try.underlying22 (by kernel_rfl) (by kernel_rfl) _ _ (by simp) (by simp) (hwf p hp) (hwf q hq)]
 congr 1
 rw [Bool.eq_iff_iff, hb, beq_iff_eq]
 constructor
 ·intro h i hi
  have h2 := congrArg (fun l : List Int => l[i]?) h
  simp only [List.getElem?_map, List.getElem?_range hi, Option.map_some, Option.some.injEq] at h2
  omega
 ·intro h
  exact List.map_congr_left fun i hi => by rw [h i (List.mem_range.1 hi)]
set_option maxHeartbeats 2000000 in
theorem Decode_any (d : Nat) (hd : 1 ≤ d ∧ d ≤ 12) (B : Nat) (v : Value) (bs : List UInt8) (hl : bs.length = 32 * d) (w : World) (hs : Sl w B v bs) (hB : B ≤ w.heap.size) : Calls Try.prog 34 #[.int .i64 (d : Int), v] w (CodeIs w (decF d (litN bs)) 0) := by
 unfold CodeIs polyV
 generalize hN : w.heap.size = N at *
 have i1 : ¬ (d : Int) < 1 := by omega
 have i2 : ¬ (12 : Int) < (d : Int) := by omega
 have i3 : (bs.length : Int) ≤ 32 * (d : Int) := by omega
 have i4 : 32 * (d : Int) ≤ (bs.length : Int) := by omega
 have HS0 : Shh (Sl (w.alloc (.cells (pc fun _ => 0).toArray 24)) B v bs ∧ Row (w.alloc (.cells (pc fun _ => 0).toArray 24)) N 24 (pc fun _ => 0) ∧ Below N w (w.alloc (.cells (pc fun _ => 0).toArray 24)) ∧ B ≤ (w.alloc (.cells (pc fun _ => 0).toArray 24)).heap.size) := by
  refine ⟨hs.below ((bel1 _ _).mono (by omega)), Row.new_ hN.symm rfl, ?_, by rw [asz]; omega⟩
  rw [← hN]
  exact bel1 _ _
 obtain ⟨q, hq⟩ : ∃ q : Nat → Nat, Shh (q = decN d (litN bs)) := ⟨_, ⟨rfl⟩⟩
 have HU : Shh (Calls Try.prog 53 #[.int .i64 (d : Int), v] (w.alloc (.cells (pc fun _ => 0).toArray 24)) (PolyIs (w.alloc (.cells (pc fun _ => 0).toArray 24)) q)) := ⟨by rw [hq.out]; exact unpacked_any d hd B v bs hl _ HS0.out.1 HS0.out.2.2.2⟩
 have HD : Shh (d ≤ 12) := ⟨hd.2⟩
 obtain ⟨A, c, rfl, _, _⟩ := hs.form
 by_cases h12 : d = 12
 ·have HR : Shh (∀ W, Calls Try.prog 14 #[.agg (pc q).toArray] W (PolyIs W (decF d (litN bs)))) := ⟨fun W => by
   unfold PolyIs polyV
   rw [show pc (decF d (litN bs)) = pc (redN q) from pc_of fun i _ => by unfold decF redN; rw [if_pos h12, hq.out, rd_same]]
   exact Reduce_any q (fun i _ => by rw [hq.out]; exact decN_16 d _ i HD.out) W⟩
  generalize decF d (litN bs) = r at *
  have H12 := Shh.mk h12
  clear hq hs hl h12 hd
  generalize bs.length = ln at *
  go_enter Try.func34, Try.ntmps34
  go_wp2_with (first | refine wl_allocP rfl rfl ?_ | (go_at_call 53; refine (HU.out).mono ?_))
  rintro e w2 ⟨rfl, b2⟩
  have HI : Shh (Row w2 N 24 (pc fun _ => 0) ∧ Below N w w2) := ⟨HS0.out.2.1.go b2, HS0.out.2.2.1.trans (b2.mono (by have := HS0.out.2.1.lt; omega))⟩
  clear b2 HS0 HU
  go_wp2_with (refine wl_newP 6 q rfl rfl rfl rfl rfl rfl rfl rfl ?_)
  intro G w3 hG r3 b3
  simp only [Act.put, arr9, hd9, tl9]
  have HJ : Shh (Row w3 N 24 (pc fun _ => 0) ∧ Row w3 G 24 (pc q) ∧ Below N w w3 ∧ N < G) := ⟨HI.out.1.go b3, r3, HI.out.2.trans (b3.mono (Nat.le_of_lt HI.out.1.lt)), by rw [hG.out]; exact HI.out.1.lt⟩
  clear r3 b3 HI hG
  go_wp2_with (first | refine wl_at 25 rfl (.bool true) rfl (eql_12 H12.out rfl rfl) ?_ | refine wpList_load_any rfl 24 (.tmp 6) rfl G rfl 24 (pc q) (.array 256 22) HJ.out.2.1 Try.underlying24 rfl (info_poly.trans (size_poly q)) ?_ | (go_at_call 14; refine (HR.out _).mono ?_))
  rintro e w4 ⟨rfl, b2⟩
  have HI : Shh (Row w4 N 24 (pc fun _ => 0) ∧ Row w4 G 24 (pc q) ∧ Below N w w4 ∧ N < G) := ⟨HJ.out.1.go b2, HJ.out.2.1.go b2, HJ.out.2.2.1.trans (b2.mono (Nat.le_of_lt HJ.out.1.lt)), HJ.out.2.2.2⟩
  clear b2 HJ HR
  go_wp2_with (refine wpList_store_any rfl 24 (.tmp 6) (.tmp 27) rfl G rfl (pc r) rfl 24 _ HI.out.2.1 (info_poly.trans (size_poly r)) (by rw [pc_length, pc_length]) (pc_one r) ?_)
  intro w5 r5 b5 z5
  have HJ : Shh (Row w5 N 24 (pc fun _ => 0) ∧ Row w5 G 24 (pc r) ∧ Below N w w5) := ⟨b5.row HI.out.1 HI.out.1.lt (by have := HI.out.2.2.2; omega), r5, HI.out.2.2.1.trans (b5.under (Nat.le_of_lt HI.out.1.lt) (Nat.le_of_lt HI.out.2.2.2))⟩
  clear r5 b5 z5 HI
  go_wp2_with (first | refine wpList_load_any rfl 24 (.tmp 6) rfl G rfl 24 (pc r) (.array 256 22) HJ.out.2.1 Try.underlying24 rfl (info_poly.trans (size_poly r)) ?_ | refine wpList_store_any rfl 24 (.tmp 4) (.tmp 28) rfl N rfl (pc r) rfl 24 _ HJ.out.1 (info_poly.trans (size_poly r)) (by rw [pc_length, pc_length]) (pc_one r) ?_)
  intro w9 hr9 b9 _
  have hb9 := HJ.out.2.2.trans (b9.under (Nat.le_of_lt HJ.out.1.lt) (Nat.le_refl _))
  go_wp2
  exact ret_rs7 Try.results34 rfl rfl rfl hr9 Try.underlying24 rfl (info_poly.trans (size_poly r)) ⟨rfl, hb9⟩
 ·have hqr : pc (decF d (litN bs)) = pc q := pc_of fun i _ => by unfold decF; rw [if_neg h12, hq.out]
  rw [hqr]
  have H12 := Shh.mk h12
  clear hq hs hl h12 hd hqr
  generalize bs.length = ln at *
  go_enter Try.func34, Try.ntmps34
  go_wp2_with (first | refine wl_allocP rfl rfl ?_ | (go_at_call 53; refine (HU.out).mono ?_))
  rintro e w2 ⟨rfl, b2⟩
  have HI : Shh (Row w2 N 24 (pc fun _ => 0) ∧ Below N w w2) := ⟨HS0.out.2.1.go b2, HS0.out.2.2.1.trans (b2.mono (by have := HS0.out.2.1.lt; omega))⟩
  clear b2 HS0 HU
  go_wp2_with (refine wl_newP 6 q rfl rfl rfl rfl rfl rfl rfl rfl ?_)
  intro G w3 hG r3 b3
  simp only [Act.put, arr9, hd9, tl9]
  have HJ : Shh (Row w3 N 24 (pc fun _ => 0) ∧ Row w3 G 24 (pc q) ∧ Below N w w3) := ⟨HI.out.1.go b3, r3, HI.out.2.trans (b3.mono (Nat.le_of_lt HI.out.1.lt))⟩
  clear r3 b3 HI hG
  go_wp2_with (first | refine wl_at 25 rfl (.bool false) rfl (neq_12 H12.out rfl rfl) ?_ | refine wpList_load_any rfl 24 (.tmp 6) rfl G rfl 24 (pc q) (.array 256 22) HJ.out.2.1 Try.underlying24 rfl (info_poly.trans (size_poly q)) ?_ | refine wpList_store_any rfl 24 (.tmp 4) (.tmp 28) rfl N rfl (pc q) rfl 24 _ HJ.out.1 (info_poly.trans (size_poly q)) (by rw [pc_length, pc_length]) (pc_one q) ?_)
  intro w9 hr9 b9 _
  have hb9 := HJ.out.2.2.trans (b9.under (Nat.le_of_lt HJ.out.1.lt) (Nat.le_refl _))
  go_wp2
  exact ret_rs7 Try.results34 rfl rfl rfl hr9 Try.underlying24 rfl (info_poly.trans (size_poly q)) ⟨rfl, hb9⟩
set_option maxHeartbeats 1000000 in
theorem Decode_bad (n : Int) (B : Nat) (v : Value) (bs : List UInt8) (hn : n < 1 ∨ 12 < n ∨ ¬ (bs.length : Int) = 32 * n) (w : World) (hs : Sl w B v bs) : Calls Try.prog 34 #[.int .i64 n, v] w (CodeIs w (fun _ => 0) 1) := by
 unfold CodeIs polyV
 obtain ⟨A, c, rfl, _, _⟩ := hs.form
 generalize hN : w.heap.size = N at *
 generalize bs.length = ln at *
 clear hs
 have HL1 : Shh (Row (w.alloc (.cells (pc fun _ => 0).toArray 24)) N 24 (pc fun _ => 0) ∧ Below N w (w.alloc (.cells (pc fun _ => 0).toArray 24))) := by
  refine ⟨Row.new_ hN.symm rfl, ?_⟩
  rw [← hN]
  exact bel1 _ _
 go_enter Try.func34, Try.ntmps34
 by_cases h1 : n < 1
 ·clear hn
  go_wp2_with (first | refine wl_allocP rfl rfl ?_ | refine wl_at 20 rfl (.agg (pc fun _ => 0).toArray) rfl (build_poly rfl) ?_ | refine wpList_store_any rfl 24 (.tmp 4) (.tmp 20) rfl N rfl (pc fun _ => 0) rfl 24 _ HL1.out.1 (info_poly.trans (size_poly _)) rfl (pc_one _) ?_)
  intro w9 hr9 b9 _
  have hb9 := HL1.out.2.trans (b9.under (by omega) (by omega))
  go_wp2
  exact ret_rs7 Try.results34 rfl rfl rfl hr9 Try.underlying24 rfl (info_poly.trans (size_poly _)) ⟨rfl, hb9⟩
 by_cases h2 : 12 < n
 ·clear hn
  go_wp2_with (first | refine wl_allocP rfl rfl ?_ | refine wl_at 20 rfl (.agg (pc fun _ => 0).toArray) rfl (build_poly rfl) ?_ | refine wpList_store_any rfl 24 (.tmp 4) (.tmp 20) rfl N rfl (pc fun _ => 0) rfl 24 _ HL1.out.1 (info_poly.trans (size_poly _)) rfl (pc_one _) ?_)
  intro w9 hr9 b9 _
  have hb9 := HL1.out.2.trans (b9.under (by omega) (by omega))
  go_wp2
  exact ret_rs7 Try.results34 rfl rfl rfl hr9 Try.underlying24 rfl (info_poly.trans (size_poly _)) ⟨rfl, hb9⟩
 ·have h3 : ¬ (ln : Int) = 32 * n := by omega
  clear hn
  go_wp2_with (first | refine wl_allocP rfl rfl ?_ | refine wl_at 20 rfl (.agg (pc fun _ => 0).toArray) rfl (build_poly rfl) ?_ | refine wpList_store_any rfl 24 (.tmp 4) (.tmp 20) rfl N rfl (pc fun _ => 0) rfl 24 _ HL1.out.1 (info_poly.trans (size_poly _)) rfl (pc_one _) ?_)
  intro w9 hr9 b9 _
  have hb9 := HL1.out.2.trans (b9.under (by omega) (by omega))
  go_wp2
  exact ret_rs7 Try.results34 rfl rfl rfl hr9 Try.underlying24 rfl (info_poly.trans (size_poly _)) ⟨rfl, hb9⟩
set_option maxHeartbeats 1000000 in
theorem Canon_any (B : Nat) (v : Value) (bs : List UInt8) (w : World) (hs : Sl w B v bs) (hB : B ≤ w.heap.size) : Calls Try.prog 37 #[v] w (BoolIs w (canonB bs)) := by
 unfold BoolIs
 generalize hN : w.heap.size = N at *
 by_cases h : bs.length = 384
 ·obtain ⟨q, hq⟩ : ∃ q : Nat → Nat, Shh (q = decN 12 (litN bs)) := ⟨_, ⟨rfl⟩⟩
  have HU : Shh (Calls Try.prog 53 #[.int .i64 12, v] w (PolyIs w q)) := ⟨by rw [hq.out]; exact unpacked_any 12 ⟨by decide, by decide⟩ B v bs h w hs (by omega)⟩
  have hq16 : ∀ i, i < 256 → q i < 65536 := fun i _ => by rw [hq.out]; exact decN_16 12 _ i (by decide)
  have HR : Shh (∀ W, Calls Try.prog 14 #[.agg (pc q).toArray] W (PolyIs W (redN q))) := ⟨fun W => Reduce_any q hq16 W⟩
  have HE : Shh (∀ W, (Op.equalIn 10000 24 (.agg (pc q).toArray) (.agg (pc (redN q)).toArray)).run Try.prog W = .ok (canonB bs) W) := ⟨fun W => eq_poly2 q (redN q) (canonB bs) (by
   unfold canonB
   rw [decide_eq_true h, Bool.true_and, List.all_eq_true]
   constructor
   ·intro h2 i hi
    have h3 := of_decide_eq_true (h2 i (List.mem_range.2 hi))
    unfold redN
    rw [rd_same, hq.out, Nat.mod_eq_of_lt h3]
   ·intro h2 i hi
    have h3 := h2 i (List.mem_range.1 hi)
    unfold redN at h3
    rw [rd_same, hq.out] at h3
    refine decide_eq_true ?_
    rw [h3]
    exact Nat.mod_lt _ (by decide)) hq16 (fun i _ => rd_16 _) W⟩
  generalize canonB bs = r at *
  generalize redN q = q2 at *
  obtain ⟨A, c, rfl, _, _⟩ := hs.form
  have h4 : (bs.length : Int) ≤ 384 := by omega
  have h5 : (384 : Int) ≤ (bs.length : Int) := by omega
  clear h hs hq hq16
  generalize bs.length = ln at *
  go_enter Try.func37, Try.ntmps37
  go_wp2_with (go_at_call 53; refine (HU.out).mono ?_)
  rintro e w2 ⟨rfl, b2⟩
  have HI : Shh (Below N w w2) := ⟨by rw [← hN]; exact b2⟩
  clear b2 HU
  go_wp2_with (refine wl_newP 3 q rfl rfl rfl rfl rfl rfl rfl rfl ?_)
  intro G w3 hG r3 b3
  simp only [Act.put, arr9, hd9, tl9]
  have HJ : Shh (Row w3 G 24 (pc q) ∧ Below N w w3) := ⟨r3, HI.out.trans (b3.mono (by have := HI.out.size; omega))⟩
  clear r3 b3 HI hG
  go_wp2
  refine wp_region_held_drew (S := fun w' => Row w' G 24 (pc q)) (by kernel_rfl) HJ.out.1.drew (fun hS => ?_)
  clear hS
  obtain ⟨U, hU⟩ : ∃ V, V = World.drew w3 := ⟨_, rfl⟩
  rw [← hU]
  have q0 : Row U G 24 (pc q) := by rw [hU]; exact HJ.out.1.drew
  have bN : Below N w U := by rw [hU]; exact HJ.out.2.drew
  clear HJ hU
  refine held_load 0 24 (.tmp 3) (some 9) (by kernel_rfl) (by rfl) (by kernel_rfl) G 0 (by kernel_rfl) (pc q) _ (fun w h => h.range) Try.underlying24 rfl (info_poly.trans (size_poly _)) (fun _ _ _ _ h => h) (q0) ?_
  simp only [Act.put, arr9, hd9, tl9]
  refine held_load 1 24 (.tmp 3) (some 10) (by kernel_rfl) (by rfl) (by kernel_rfl) G 0 (by kernel_rfl) (pc q) _ (fun w h => h.range) Try.underlying24 rfl (info_poly.trans (size_poly _)) (fun _ _ _ _ h => h) (q0) ?_
  simp only [Act.put, arr9, hd9, tl9]
  refine held_one 2 (by kernel_rfl) ?_
  refine step_call 2 _ _ (some 11) 14 #[.agg (pc q).toArray] (by rfl) (by kernel_rfl) (by first | kernel_rfl | go_simp) ?_
  refine (HR.out U).mono ?_
  rintro e Y1 ⟨rfl, b1⟩
  have bx : Below U.heap.size U Y1 := b1
  clear b1
  have b_U := bx
  have m_Y1 : U.heap.size ≤ Y1.heap.size := bx.size
  clear bx
  refine ⟨_, rfl, (q0.go b_U), ?_⟩
  simp only [Act.put, arr9, hd9, tl9]
  refine hdv 3 12 (.bool r) (by rfl) (fun w hS => run_eql_agg (by kernel_rfl) (HE.out w) (by kernel_rfl) (by kernel_rfl)) ((q0.go b_U)) ?_
  refine hdv0 4 2 (.bool r) (by rfl) ((q0.go b_U)) ?_
  refine wpAnyH_done (by kernel_rfl) ?_ _
  have HZ : Shh (Below N w Y1) := ⟨bN.trans (b_U.mono (by have := bN.size; omega))⟩
  clear m_Y1 b_U bN q0
  go_wp2
  go_ret
  exact ⟨rfl, HZ.out⟩
 ·have hr : canonB bs = false := by
   unfold canonB
   rw [decide_eq_false h, Bool.false_and]
  rw [hr]
  obtain ⟨A, c, rfl, _, _⟩ := hs.form
  have h4 : ¬ (bs.length : Int) = 384 := by omega
  have HB := Shh.mk (Below.refl N w)
  clear h hs hr
  generalize bs.length = ln at *
  go_enter Try.func37, Try.ntmps37
  go_wp2
  go_ret
  exact ⟨rfl, HB.out⟩
end Go.Proofs.Ytfcgdjgfdbcddaa
