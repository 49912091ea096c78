/-
 THE PROGRAM'S OWN unpacked: coefficients of d bits out of bytes.
-/
import Derived.Test.YtapjiknedghhfaaDoorSs3
namespace Go.Proofs.YtapjiknedghhfaaDoor
open Go.RowKit
set_option maxRecDepth 100000
/-- coefficient i of d bits in the number V -/
def decN (d V i : Nat) : Nat := V / 2 ^ (d * i) % 2 ^ d
theorem decN_lt (d V i : Nat) : decN d V i < 2 ^ d := Nat.mod_lt _ (Nat.two_pow_pos d)
/-- unpacking: a byte comes in -/
theorem unpack_in (V s c m : Nat) (hc : s + c = 8 * m) : V / 2 ^ s % 2 ^ (c + 8) = V / 2 ^ s % 2 ^ c + V / 256 ^ m % 256 * 2 ^ c := by
 rw [Nat.pow_add, Nat.mod_mul, Nat.div_div_eq_div_mul, ← Nat.pow_add, hc, Nat.pow_mul, Nat.mul_comm (2 ^ c)]
theorem unpack_out (V s c d : Nat) (hd : d ≤ c) : V / 2 ^ s % 2 ^ c % 2 ^ d = V / 2 ^ s % 2 ^ d ∧ V / 2 ^ s % 2 ^ c / 2 ^ d = V / 2 ^ (s + d) % 2 ^ (c - d) := by
 obtain ⟨e, rfl⟩ : ∃ e, c = d + e := ⟨c - d, by omega⟩
 constructor
 ·rw [Nat.pow_add, Nat.mod_mul_right_mod]
 ·rw [show d + e - d = e by omega, Nat.pow_add, Nat.pow_add, Nat.mod_mul_right_div_self, Nat.div_div_eq_div_mul]
theorem litN_byte (bs : List UInt8) (m : Nat) (h : m < bs.length) : litN bs / 256 ^ m % 256 = (bs[m]).toNat := by
 have h1 := litB_litN bs
 have h2 : m < (litB (litN bs) bs.length).length := by rw [litB_length]; exact h
 have h3 := litB_getElem (litN bs) bs.length m h2
 have h4 : (litB (litN bs) bs.length)[m] = bs[m] := by congr 1
 rw [h4] at h3
 rw [h3]
 simp
section
variable {a : Act} {x y : Operand} {op : Oper} {w : World}
/-- a shift to the left by d: times 2 to the d -/
theorem shl_32 {n d k : Nat} (h : k = n * 2 ^ d) (hd : d ≤ 31) (hk : k < 4294967296) (ho : op.op = .binOp .shl 81 x y 3) (hx : a.eval x = .int .u32 (n : Int)) (hy : a.eval y = .int .i64 (d : Int)) : (execOp a.eval op).run Tryd.prog w = .ok (.value (.int .u32 (k : Int))) w := by
 have h1 : ¬ (d : Int) < 0 := by omega
 have h2 : (d : Int).toNat = d := by omega
 have he : (n : Int) * 2 ^ d = (k : Int) := by rw [h, Int.natCast_mul, Int.natCast_pow]; rfl
 have hw : IntKind.u32.wrap (k : Int) = (k : Int) := by rw [IntKind.wrap_u32]; omega
 have hm : (k : Int) % 4294967296 = (k : Int) := by omega
 have h3 : d < 32 := by omega
 clear h
 unfold execOp
 simp only [ho, hx, hy]
 go_simp
theorem shr_32 {n d k : Nat} (h : k = n / 2 ^ d) (hd : d ≤ 31) (hn : n < 4294967296) (ho : op.op = .binOp .shr 81 x y 3) (hx : a.eval x = .int .u32 (n : Int)) (hy : a.eval y = .int .i64 (d : Int)) : (execOp a.eval op).run Tryd.prog w = .ok (.value (.int .u32 (k : Int))) w := by
 have h1 : ¬ (d : Int) < 0 := by omega
 have h2 : (d : Int).toNat = d := by omega
 have hk : k ≤ n := by rw [h]; exact Nat.div_le_self _ _
 have he : (n : Int) / 2 ^ d = (k : Int) := by rw [h, Int.natCast_ediv, Int.natCast_pow]; rfl
 have hw : IntKind.u32.wrap (k : Int) = (k : Int) := by rw [IntKind.wrap_u32]; omega
 have hm : (k : Int) % 4294967296 = (k : Int) := by omega
 have h3 : d < 32 := by omega
 clear h
 unfold execOp
 simp only [ho, hx, hy]
 go_simp
/-- what lies below 2 to the c, and a multiple of it: their 'or' is their sum -/
theorem or_32 {n m k c : Nat} (h : k = n + m * 2 ^ c) (hn : n < 2 ^ c) (hk : k < 4294967296) (ho : op.op = .binOp .or 81 x y 81) (hx : a.eval x = .int .u32 (n : Int)) (hy : a.eval y = .int .u32 ((m * 2 ^ c : Nat) : Int)) : (execOp a.eval op).run Tryd.prog w = .ok (.value (.int .u32 (k : Int))) w := by
 have h1 : n ||| m * 2 ^ c = k := by
  rw [Nat.or_comm, ← Nat.shiftLeft_eq, ← Nat.shiftLeft_add_eq_or_of_lt hn, Nat.shiftLeft_eq, h, Nat.add_comm]
 have h2 := (bits_nat .u32 32 (by decide) wraps_u32 n (m * 2 ^ c) (by omega) (by omega)).2
 rw [h1] at h2
 generalize m * 2 ^ c = q at *
 clear h
 unfold execOp
 simp only [ho, hx, hy]
 go_simp
theorem conv_8_32 {n : Nat} (hn : n < 256) (ho : op.op = .convert 5 81 x) (hx : a.eval x = .int .u8 (n : Int)) : (execOp a.eval op).run Tryd.prog w = .ok (.value (.int .u32 (n : Int))) w := by
 have hw : IntKind.u32.wrap (n : Int) = (n : Int) := by rw [IntKind.wrap_u32]; omega
 have hm : (n : Int) % 4294967296 = (n : Int) := by omega
 unfold execOp
 simp only [ho, hx]
 go_simp
theorem shl_1_32 {d k : Nat} (h : k = 2 ^ d) (hd : d ≤ 31) (ho : op.op = .binOp .shl 81 (.const (.int .u32 1)) y 3) (hy : a.eval y = .int .i64 (d : Int)) : (execOp a.eval op).run Tryd.prog w = .ok (.value (.int .u32 (k : Int))) w :=
 shl_32 (n := 1) (d := d) (by omega) hd (by rw [h]; exact Nat.lt_of_le_of_lt (Nat.pow_le_pow_right (by decide) hd) (by decide)) ho rfl hy
theorem sub_32 {i j k : Nat} (h : i = k + j ∧ i < 4294967296) (ho : op.op = .binOp .sub 81 x y 81) (hx : a.eval x = .int .u32 (i : Int)) (hy : a.eval y = .int .u32 (j : Int)) : (execOp a.eval op).run Tryd.prog w = .ok (.value (.int .u32 (k : Int))) w := by
 have hw : IntKind.u32.wrap ((i : Int) - (j : Int)) = (k : Int) := by rw [IntKind.wrap_u32]; omega
 have hm : ((i : Int) - (j : Int)) % 4294967296 = (k : Int) := by omega
 clear h
 unfold execOp
 simp only [ho, hx, hy]
 go_simp
/-- the lowest d bits -/
theorem and_32 {n d k m : Nat} (h : k = n % 2 ^ d) (hm : m + 1 = 2 ^ d) (hn : n < 4294967296) (hm2 : m < 4294967296) (ho : op.op = .binOp .and 81 x y 81) (hx : a.eval x = .int .u32 (n : Int)) (hy : a.eval y = .int .u32 (m : Int)) : (execOp a.eval op).run Tryd.prog w = .ok (.value (.int .u32 (k : Int))) w := by
 have h1 : n &&& m = k := by rw [show m = 2 ^ d - 1 by omega, Nat.and_two_pow_sub_one_eq_mod, h]
 have h2 := (bits_nat .u32 32 (by decide) wraps_u32 n m (by omega) (by omega)).1
 rw [h1] at h2
 clear h
 unfold execOp
 simp only [ho, hx, hy]
 go_simp
theorem conv_32d {n : Nat} (hn : n < 2147483648) (ho : op.op = .convert 81 21 x) (hx : a.eval x = .int .u32 (n : Int)) : (execOp a.eval op).run Tryd.prog w = .ok (.value (.int .i32 (n : Int))) w := by
 have hw : IntKind.i32.wrap (n : Int) = (n : Int) := by rw [IntKind.wrap_i32]; omega
 unfold execOp
 simp only [ho, hx]
 go_simp
end
theorem bel1 (w : World) (o : Obj) : Below w.heap.size w (w.alloc o) := Below.alloc (Below.refl _ _) (Nat.le_refl _) _
set_option maxHeartbeats 2000000 in
theorem unpackedD_any (d : Nat) (hd : 1 ≤ d ∧ d ≤ 23) (B : Nat) (v : Value) (bs : List UInt8) (hl : bs.length = 32 * d) (w : World) (hs : Sl w B v bs) (hB : B ≤ w.heap.size) : Calls Tryd.prog 49 #[.int .i64 (d : Int), v] w (DPolyIs w (fun i => (decN d (litN bs) i : Int))) := by
 unfold DPolyIs
 generalize hN : w.heap.size = N at *
 obtain ⟨V, hV⟩ : ∃ V, Shh (V = litN bs) := ⟨_, ⟨rfl⟩⟩
 have HBY : Shh (∀ m (h : m < bs.length), V / 256 ^ m % 256 = (bs[m]).toNat) := ⟨fun m h => by rw [hV.out]; exact litN_byte bs m h⟩
 rw [← hV.out]
 obtain ⟨r, hr⟩ : ∃ r : Nat → Int, Shh (r = fun i => (decN d V i : Int)) := ⟨_, ⟨rfl⟩⟩
 have HR : Shh (∀ k, r k = ((V / 2 ^ (d * k) % 2 ^ d : Nat) : Int)) := ⟨fun k => by
  rw [hr.out]
  rfl⟩
 have HP2 : Shh (1 ≤ 2 ^ d ∧ 2 ^ d ≤ 8388608) := ⟨Nat.two_pow_pos d, Nat.le_trans (Nat.pow_le_pow_right (by decide) hd.2) (by decide)⟩
 rw [← hr.out]
 have HD := Shh.mk (And.intro hd (And.intro hl hB))
 have HS0 := Shh.mk hs
 clear hr hV hd hl hB hs
 obtain ⟨W, hW⟩ : ∃ W, W = (w.alloc (.cells (dc fun _ => 0).toArray 25)).alloc (.cells (dc fun _ => 0).toArray 25) := ⟨_, rfl⟩
 have HW : Shh (Row W N 25 (dc fun _ => 0) ∧ Row W (N + 1) 25 (dc (dhf r (fun _ => 0) 0)) ∧ Below N w W ∧ Sl W B v (bs.drop 0)) := by
  have hb : Below N w W := by
   rw [hW, ← hN]
   exact Below.chain (bel1 _ _) (bel1 _ _)
  refine ⟨by rw [hW]; exact (Row.new_ hN.symm rfl).alloc _, by rw [hW, dhf_zero]; exact Row.new_ (by rw [asz, hN]) rfl, hb, ?_⟩
  rw [List.drop_zero]
  exact HS0.out.below (hb.mono HD.out.2.2)
 go_enter Tryd.func49, Tryd.ntmps49
 go_wp2_with (refine wl_allocD rfl rfl ?_)
 try simp only [asz, hN]
 rw [← hW]
 clear hW HS0
 go_wp2
 go_loopw [1, 6, 7, 9] (fun b s c i wr => ∃ k m n : Nat, k ≤ 256 ∧ i = .int .i64 (k : Int) ∧ s = .int .u32 ((V / 2 ^ (d * k) % 2 ^ n : Nat) : Int) ∧ c = .int .i64 (n : Int) ∧ Shh (d * k + n = 8 * m ∧ n < 8 ∧ Row wr N 25 (dc fun _ => 0) ∧ Row wr (N + 1) 25 (dc (dhf r (fun _ => 0) k)) ∧ Below N w wr ∧ Sl wr B b (bs.drop m))) (fun _ _ _ i _ => 256 - (intOf i).toNat)
 case atStart => exact ⟨0, 0, 0, Nat.zero_le _, rfl, by rw [Nat.pow_zero, Nat.mod_one]; rfl, rfl, ⟨⟨by omega, by decide, HW.out⟩⟩⟩
 case round =>
  clear HW
  obtain ⟨k, m, n, hk, rfl, rfl, rfl, HI⟩ := hrel
  by_cases hlt : k < 256
  ·have hlt2 : (k : Int) < 256 := by omega
   go_wp2
   go_loopw [1, 6, 7] (fun b s c wq => ∃ m n : Nat, s = .int .u32 ((V / 2 ^ (d * k) % 2 ^ n : Nat) : Int) ∧ c = .int .i64 (n : Int) ∧ Shh (d * k + n = 8 * m ∧ n < d + 8 ∧ wq = wr ∧ Sl wr B b (bs.drop m))) (fun _ _ c _ => d + 8 - (intOf c).toNat)
   case atStart => exact ⟨m, n, rfl, rfl, ⟨⟨HI.out.1, by have := HI.out.2.1; omega, rfl, HI.out.2.2.2.2.2⟩⟩⟩
   case round =>
    obtain ⟨m2, n2, rfl, rfl, HJ⟩ := hrel
    have hwr := HJ.out.2.2.1
    subst hwr
    by_cases hn : n2 < d
    ·have hn2 : (n2 : Int) < (d : Int) := by omega
     have hm : m2 < bs.length := by
      have h1 := HJ.out.1
      have h2 : d * (k + 1) ≤ d * 256 := Nat.mul_le_mul_left _ (by omega)
      rw [Nat.mul_succ] at h2
      have h3 := HD.out.2.1
      omega
     have HB1 := Shh.mk (HBY.out m2 hm)
     obtain ⟨A, cc, rfl, _, _⟩ := HJ.out.2.2.2.form
     have hlen : 0 < (bs.drop m2).length := by rw [List.length_drop]; omega
     obtain ⟨g, off, rfl, hg, hcc⟩ := HJ.out.2.2.2.at_ hlen
     have c1 := hcc 0 hlen
     rw [List.getElem_drop] at c1
     simp only [Nat.add_zero] at c1
     have hby : (bs[m2]).toNat < 256 := (bs[m2]).toNat_lt
     generalize (bs[m2]).toNat = q at *
     obtain ⟨x, Hx⟩ : ∃ x, Shh (x = V / 2 ^ (d * k) % 2 ^ n2) := ⟨_, ⟨rfl⟩⟩
     obtain ⟨z, Hz⟩ : ∃ z, Shh (z = V / 2 ^ (d * k) % 2 ^ (n2 + 8)) := ⟨_, ⟨rfl⟩⟩
     obtain ⟨n3, Hn3⟩ : ∃ n3, Shh (n3 = n2 + 8 ∧ n3 ≤ 1000000000000) := ⟨_, ⟨rfl, by have := HD.out; omega⟩⟩
     have e6 : 2 ^ n2 ≤ 8388608 := Nat.le_trans (Nat.pow_le_pow_right (by decide) (show n2 ≤ 23 by have := HD.out; omega)) (by decide)
     have e7 : 2 ^ (n2 + 8) ≤ 2147483648 := Nat.le_trans (Nat.pow_le_pow_right (by decide) (show n2 + 8 ≤ 31 by have := HD.out; omega)) (by decide)
     have e8 : q * 2 ^ n2 ≤ 256 * 8388608 := Nat.mul_le_mul (Nat.le_of_lt hby) e6
     have HOR : Shh (z = x + q * 2 ^ n2 ∧ x < 2 ^ n2 ∧ z < 4294967296) := ⟨by rw [Hz.out, Hx.out, unpack_in V (d * k) n2 m2 HJ.out.1, HB1.out], by rw [Hx.out]; exact Nat.mod_lt _ (Nat.two_pow_pos _), by rw [Hz.out]; exact Nat.lt_of_lt_of_le (Nat.mod_lt _ (Nat.two_pow_pos _)) (by omega)⟩
     have HQ : Shh (q < 256 ∧ n2 ≤ 31 ∧ q * 2 ^ n2 < 4294967296 ∧ 1 ≤ (bs.drop m2).length) := ⟨hby, by have := HD.out; omega, by omega, hlen⟩
     rw [← Hx.out]
     clear e6 e7 e8 hcc hg Hx
     have HSL := Shh.mk HJ.out.2.2.2
     have HJ2 := Shh.mk (And.intro HJ.out.1 HJ.out.2.1)
     have HDR : Shh ((bs.drop m2).tail = bs.drop (m2 + 1)) := ⟨by rw [← List.drop_one, List.drop_drop]⟩
     clear HJ
     generalize hbd : bs.drop m2 = bd at *
     have HBD := Shh.mk hbd
     clear hbd
     generalize hln : bd.length = ln at *
     have HLN := Shh.mk hln
     clear hln
     go_wp2_with (first | refine wl_at 21 rfl (.int .u32 (q : Int)) rfl (conv_8_32 HQ.out.1 rfl rfl) ?_ | refine wl_at 23 rfl (.int .u32 ((q * 2 ^ n2 : Nat) : Int)) rfl (shl_32 (n := q) (d := n2) rfl HQ.out.2.1 HQ.out.2.2.1 rfl rfl rfl) ?_ | refine wl_at 24 rfl (.int .u32 (z : Int)) rfl (or_32 (n := x) (m := q) (c := n2) HOR.out.1 HOR.out.2.1 HOR.out.2.2 rfl rfl rfl) ?_ | refine wpList_slice_from rfl (.tmp 25) (.const (.int .i64 1)) rfl B _ rfl bd HSL.out 1 rfl (by rw [HLN.out]; exact HQ.out.2.2.2) ?_)
     intro v' hsl _
     rw [HDR.out] at hsl
     have HN3 := Shh.mk hsl
     clear hsl
     go_wp2_with (refine wl_at 16 rfl (.int .i64 (n3 : Int)) rfl (add_n (i := (n2 : Int)) (j := 8) ⟨by have := Hn3.out; omega, by have := Hn3.out; omega, by have := Hn3.out; omega⟩ rfl rfl rfl) ?_)
     go_roundw
     case rel => exact ⟨m2 + 1, n3, by rw [Hz.out, Hn3.out.1], rfl, ⟨⟨by have := HJ2.out; have := Hn3.out; omega, by have := Hn3.out; omega, trivial, HN3.out⟩⟩⟩
     case measure => (have := Hn3.out; simp [intOf]; omega)
    ·have hn2 : ¬ (n2 : Int) < (d : Int) := by omega
     obtain ⟨f1, f2⟩ := unpack_out V (d * k) n2 d (by omega)
     have e6 : 2 ^ n2 ≤ 2147483648 := Nat.le_trans (Nat.pow_le_pow_right (by decide) (show n2 ≤ 31 by have := HD.out; have := HJ.out; omega)) (by decide)
     have e7 : V / 2 ^ (d * k) % 2 ^ n2 < 2 ^ n2 := Nat.mod_lt _ (Nat.two_pow_pos _)
     obtain ⟨x, Hx⟩ : ∃ x, Shh (x = V / 2 ^ (d * k) % 2 ^ n2) := ⟨_, ⟨rfl⟩⟩
     rw [← Hx.out] at f1 f2 e7 ⊢
     obtain ⟨x2, Hx2⟩ : ∃ x2, Shh (x2 = x / 2 ^ d) := ⟨_, ⟨rfl⟩⟩
     obtain ⟨n3, Hn3⟩ : ∃ n3, Shh (n2 = n3 + d ∧ n2 ≤ 1000000000000) := ⟨n2 - d, ⟨by omega, by have := HD.out; have := HJ.out; omega⟩⟩
     obtain ⟨p2, Hp2⟩ : ∃ p, Shh (p = 2 ^ d) := ⟨_, ⟨rfl⟩⟩
     obtain ⟨m1, Hm1⟩ : ∃ m, Shh (m + 1 = 2 ^ d) := ⟨2 ^ d - 1, ⟨by have := HP2.out.1; omega⟩⟩
     obtain ⟨y, Hy⟩ : ∃ y, Shh (y = x % 2 ^ d) := ⟨_, ⟨rfl⟩⟩
     have HY : Shh (y < 2147483648 ∧ m1 < 4294967296 ∧ p2 = m1 + 1 ∧ p2 < 4294967296) := ⟨by
      have h1 := Nat.mod_lt x (Nat.two_pow_pos d)
      have h2 := HP2.out.2
      have h3 := Hy.out
      have h4 := Hm1.out
      have h5 := Hp2.out
      omega⟩
     have hrk : (y : Int) = r k := by rw [Hy.out, f1, (HR.out k)]
     have HX : Shh (x < 4294967296 ∧ d ≤ 31 ∧ x2 = V / 2 ^ (d * (k + 1)) % 2 ^ n3) := ⟨by omega, by have := HD.out; omega, by rw [Hx2.out, f2, Nat.mul_succ]; congr 2; have := Hn3.out; omega⟩
     have HN2 := Shh.mk (dhf_next r (fun _ => 0) k)
     rw [← hrk] at HN2
     have HI2 := Shh.mk (And.intro HI.out.2.2 HJ.out)
     clear f1 f2 e6 e7 hrk HJ HI
     go_wp2_with (first | refine wl_at 30 rfl (.int .u32 (p2 : Int)) rfl (shl_1_32 (d := d) Hp2.out HX.out.2.1 rfl rfl) ?_ | refine wl_at 31 rfl (.int .u32 (m1 : Int)) rfl (sub_32 (j := 1) ⟨HY.out.2.2.1, HY.out.2.2.2⟩ rfl rfl rfl) ?_ | refine wl_at 32 rfl (.int .u32 (y : Int)) rfl (and_32 (n := x) (d := d) (m := m1) Hy.out Hm1.out HX.out.1 HY.out.2.1 rfl rfl rfl) ?_ | refine wl_at 33 rfl (.int .i32 (y : Int)) rfl (conv_32d HY.out.1 rfl rfl) ?_ | refine wl_at 34 rfl (.pointer (some ⟨N + 1, k, none⟩)) rfl (at_dD hlt rfl rfl rfl) ?_ | refine wl_storeD rfl hlt rfl rfl rfl HI2.out.1.2.1 ?_)
     intro w3 r3 b3 z3
     rw [HN2.out] at r3
     have hbn : B ≤ wr.heap.size := by have h1 := HI2.out.1.1.lt; have h2 := HD.out.2.2; omega
     have HO : Shh (Row w3 N 25 (dc fun _ => 0) ∧ Row w3 (N + 1) 25 (dc (dhf r (fun _ => 0) (k + 1))) ∧ Below N w w3 ∧ Sl w3 B u1 (bs.drop m2)) := ⟨b3.row HI2.out.1.1 HI2.out.1.1.lt (by omega), r3, HI2.out.1.2.2.1.trans (b3.under (Nat.le_of_lt HI2.out.1.1.lt) (Nat.le_succ _)), HI2.out.2.2.2.2.below (b3.under hbn (by have h2 := HD.out.2.2; omega))⟩
     clear r3 b3 z3 hbn
     go_wp2_with (first | refine wl_at 37 rfl (.int .u32 (x2 : Int)) rfl (shr_32 (n := x) (d := d) Hx2.out HX.out.2.1 HX.out.1 rfl rfl rfl) ?_ | refine wl_at 40 rfl (.int .i64 (n3 : Int)) rfl (sub_n (i := (n2 : Int)) (j := (d : Int)) ⟨by have := Hn3.out; omega, by have := Hn3.out; omega, by have := Hn3.out; omega⟩ rfl rfl rfl) ?_)
     go_roundw
     case rel => exact ⟨k + 1, m2, n3, by omega, by go_num, by rw [HX.out.2.2], rfl, ⟨⟨by have h1 := HI2.out.2.1; have h2 := Hn3.out; rw [Nat.mul_succ]; omega, by have h1 := HI2.out.2.2.1; have h2 := Hn3.out; omega, HO.out⟩⟩⟩
     case measure => simp [intOf]; omega
  ·have HL : Shh (dc (dhf r (fun _ => 0) k) = dc r) := ⟨by rw [show k = 256 by omega]; exact dhf_all _ _⟩
   have HI2 := Shh.mk HI.out.2.2
   rw [HL.out] at HI2
   have hlt2 : ¬ (k : Int) < 256 := by omega
   clear HI HL
   go_wp2_with (first
    | refine wpList_load_any rfl 25 (.tmp 5) rfl (N + 1) rfl 25 (dc r) (.array 256 21) HI2.out.2.1 Tryd.underlying25 rfl (info_dD.trans (size_dc r)) ?_
    | refine wpList_store_any rfl 25 (.tmp 4) (.tmp 42) rfl N rfl (dc r) rfl 25 _ HI2.out.1 (info_dD.trans (size_dc r)) (same_dc _ _) (dc_one r) ?_)
   intro w9 hr9 b9 _
   have hb9 := HI2.out.2.2.1.trans (b9.under (Nat.le_of_lt HI2.out.1.lt) (Nat.le_refl _))
   go_wp2
   exact ret_row Tryd.results49 rfl rfl hr9 Tryd.underlying25 rfl (info_dD.trans (size_dc r)) ⟨rfl, hb9⟩
end Go.Proofs.YtapjiknedghhfaaDoor
