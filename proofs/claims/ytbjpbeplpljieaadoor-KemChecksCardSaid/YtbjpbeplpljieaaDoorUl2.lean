/-
 THE LAW KemChecks.
-/
import Derived.Test.YtbjpbeplpljieaaDoorUl1
namespace Go.Proofs.YtbjpbeplpljieaaDoor
open Go.RowKit
set_option maxRecDepth 100000
section
variable {op : Oper} {a : Act} {w : World} {x y : Operand}
theorem run_conv16 {m : Nat} (hm : m < 65536) (ho : op.op = .convert 39 3 x) (hx : a.eval x = .int .u16 (m : Int)) : (execOp a.eval op).run Tryd.prog w = .ok (.value (.int .i64 (m : Int))) w := by
 have hw : IntKind.i64.wrap (m : Int) = (m : Int) := by rw [IntKind.wrap_i64]; omega
 unfold execOp
 simp only [ho, hx]
 go_simp
theorem run_remI {r m c : Nat} (h : r = m % c) (hc : 0 < c) (hm : m < 65536) (ho : op.op = .binOp .rem 3 x y 3) (hx : a.eval x = .int .i64 (m : Int)) (hy : a.eval y = .int .i64 (c : Int)) : (execOp a.eval op).run Tryd.prog w = .ok (.value (.int .i64 (r : Int))) w := by
 have h0 : ¬ (c : Int) = 0 := by omega
 have h0' : ¬ c = 0 := by omega
 have hr : r ≤ m := by rw [h]; exact Nat.mod_le _ _
 have h1 : Int.tmod (m : Int) (c : Int) = (r : Int) := by rw [h, Int.tmod_eq_emod_of_nonneg (by omega)]; rfl
 have hw : IntKind.i64.wrap (r : Int) = (r : Int) := by rw [IntKind.wrap_i64]; omega
 have h2 : ((c : Int) == 0) = false := by simp; omega
 clear h
 unfold execOp
 simp only [ho, hx, hy]
 go_simp
theorem run_rem16 {r m : Nat} (h : r = m % 2) (hm : m < 65536) (ho : op.op = .binOp .rem 39 x (.const (.int .u16 2)) 39) (hx : a.eval x = .int .u16 (m : Int)) : (execOp a.eval op).run Tryd.prog w = .ok (.value (.int .u16 (r : Int))) w := by
 have hy : a.eval (.const (.int .u16 2)) = .int .u16 2 := rfl
 have hr : r ≤ m := by rw [h]; exact Nat.mod_le _ _
 have h1 : Int.tmod (m : Int) 2 = (r : Int) := by rw [h, Int.tmod_eq_emod_of_nonneg (by omega)]; rfl
 have hw : IntKind.u16.wrap (r : Int) = (r : Int) := by rw [IntKind.wrap_u16]; omega
 have hw2 : (r : Int) % 65536 = (r : Int) := by omega
 clear h
 unfold execOp
 simp only [ho, hx, hy]
 go_simp
theorem run_mulI {k g c : Nat} (h : k = c * g) (hk : k < 65536) (ho : op.op = .binOp .mul 3 x y 3) (hx : a.eval x = .int .i64 (c : Int)) (hy : a.eval y = .int .i64 (g : Int)) : (execOp a.eval op).run Tryd.prog w = .ok (.value (.int .i64 (k : Int))) w := by
 have h1 : (c : Int) * (g : Int) = (k : Int) := by rw [h]; simp
 have hw : IntKind.i64.wrap (k : Int) = (k : Int) := by rw [IntKind.wrap_i64]; omega
 clear h
 unfold execOp
 simp only [ho, hx, hy]
 go_simp
theorem run_addI {k m n : Nat} (h : k = m + n) (hk : k < 65536) (ho : op.op = .binOp .add 3 x y 3) (hx : a.eval x = .int .i64 (m : Int)) (hy : a.eval y = .int .i64 (n : Int)) : (execOp a.eval op).run Tryd.prog w = .ok (.value (.int .i64 (k : Int))) w := by
 have h1 : (m : Int) + (n : Int) = (k : Int) := by rw [h]; simp
 have hw : IntKind.i64.wrap (k : Int) = (k : Int) := by rw [IntKind.wrap_i64]; omega
 clear h
 unfold execOp
 simp only [ho, hx, hy]
 go_simp
theorem run_toU8 {b n : Nat} (h : b = n % 256) (ho : op.op = .convert 3 5 x) (hx : a.eval x = .int .i64 (n : Int)) : (execOp a.eval op).run Tryd.prog w = .ok (.value (.int .u8 (b : Int))) w := by
 have hw : IntKind.u8.wrap (n : Int) = (b : Int) := by rw [IntKind.wrap_u8]; omega
 have hw2 : (n : Int) % 256 = (b : Int) := by omega
 clear h
 unfold execOp
 simp only [ho, hx]
 go_simp
theorem run_shrI {b n d : Nat} (h : b = n / 2 ^ d) (hd : d ≤ 31) (hn : n < 65536) (ho : op.op = .binOp .shr 3 x y 41) (hx : a.eval x = .int .i64 (n : Int)) (hy : a.eval y = .int .u64 (d : Int)) : (execOp a.eval op).run Tryd.prog w = .ok (.value (.int .i64 (b : Int))) w := by
 have h1 : ¬ (d : Int) < 0 := by omega
 have h2 : (d : Int).toNat = d := by omega
 have hk : b ≤ n := by rw [h]; exact Nat.div_le_self _ _
 have he : (n : Int) / 2 ^ d = (b : Int) := by rw [h, Int.natCast_ediv, Int.natCast_pow]; rfl
 have hw : IntKind.i64.wrap (b : Int) = (b : Int) := by rw [IntKind.wrap_i64]; omega
 have h3 : d < 64 := by omega
 clear h
 unfold execOp
 simp only [ho, hx, hy]
 go_simp
theorem run_shlI {b n d : Nat} (h : b = n * 2 ^ d) (hd : d ≤ 31) (hb : b < 1000000) (ho : op.op = .binOp .shl 3 x y 41) (hx : a.eval x = .int .i64 (n : Int)) (hy : a.eval y = .int .u64 (d : Int)) : (execOp a.eval op).run Tryd.prog w = .ok (.value (.int .i64 (b : Int))) w := by
 have h1 : ¬ (d : Int) < 0 := by omega
 have h2 : (d : Int).toNat = d := by omega
 have he : (n : Int) * 2 ^ d = (b : Int) := by rw [h, Int.natCast_mul, Int.natCast_pow]; rfl
 have hw : IntKind.i64.wrap (b : Int) = (b : Int) := by rw [IntKind.wrap_i64]; omega
 have h3 : d < 64 := by omega
 clear h
 unfold execOp
 simp only [ho, hx, hy]
 go_simp
theorem and240_all : ((List.range 256).all fun x => decide (x &&& 240 = x / 16 * 16) && decide (x &&& 15 = x % 16)) = true := by decide +kernel
theorem or16_all : ((List.range 16).all fun p => (List.range 16).all fun q => decide (16 * p ||| q = 16 * p + q) && decide (q ||| 16 * p = q + 16 * p)) = true := by decide +kernel
theorem bits_and8 (p q : Nat) (hp : p < 256) (hq : q < 256) : bits .and .u8 (p : Int) (q : Int) = ((p &&& q : Nat) : Int) := by
 have h := u8_and (UInt8.ofNat p) (UInt8.ofNat q)
 rw [u8_of hp, u8_of hq, UInt8.toNat_and, u8_of hp, u8_of hq] at h
 exact h
theorem bits_or8 (p q : Nat) (hp : p < 256) (hq : q < 256) : bits .or .u8 (p : Int) (q : Int) = ((p ||| q : Nat) : Int) := by
 have h := u8_or (UInt8.ofNat p) (UInt8.ofNat q)
 rw [u8_of hp, u8_of hq, UInt8.toNat_or, u8_of hp, u8_of hq] at h
 exact h
theorem run_bits8 {p q r : Nat} (b : BinOp) (hb : b = .and ∨ b = .or) (h : bits b .u8 (p : Int) (q : Int) = (r : Int)) (hr : r < 256) (ho : op.op = .binOp b 5 x y 5) (hx : a.eval x = .int .u8 (p : Int)) (hy : a.eval y = .int .u8 (q : Int)) : (execOp a.eval op).run Tryd.prog w = .ok (.value (.int .u8 (r : Int))) w := by
 have hw : IntKind.u8.wrap (r : Int) = (r : Int) := by rw [IntKind.wrap_u8]; omega
 have hw2 : (r : Int) % 256 = (r : Int) := by omega
 rcases hb with rfl | rfl
 all_goals
  unfold execOp
  simp only [ho, hx, hy]
  go_simp
theorem bits_lo (p : Nat) (hp : p < 256) : bits .and .u8 (p : Int) 240 = ((p / 16 * 16 : Nat) : Int) ∧ bits .and .u8 (p : Int) 15 = ((p % 16 : Nat) : Int) := by
 have h := List.all_eq_true.1 and240_all p (List.mem_range.2 hp)
 simp only [Bool.and_eq_true, decide_eq_true_eq] at h
 have h1 := bits_and8 p 240 hp (by decide)
 have h2 := bits_and8 p 15 hp (by decide)
 rw [h.1] at h1
 rw [h.2] at h2
 exact ⟨h1, h2⟩
theorem bits_hi (p q : Nat) (hp : p < 16) (hq : q < 16) : bits .or .u8 ((16 * p : Nat) : Int) (q : Int) = ((16 * p + q : Nat) : Int) ∧ bits .or .u8 (q : Int) ((16 * p : Nat) : Int) = ((q + 16 * p : Nat) : Int) := by
 have h := List.all_eq_true.1 (List.all_eq_true.1 or16_all p (List.mem_range.2 hp)) q (List.mem_range.2 hq)
 simp only [Bool.and_eq_true, decide_eq_true_eq] at h
 have h1 := bits_or8 (16 * p) q (by omega) (by omega)
 have h2 := bits_or8 q (16 * p) (by omega) (by omega)
 rw [h.1] at h1
 rw [h.2] at h2
 exact ⟨h1, h2⟩
theorem run_load8 {g k p : Nat} {cs : List Value} (hk : cs[k]? = some (.int .u8 (p : Int))) (ho : op.op = .load 5 x) (hx : a.eval x = .pointer (some ⟨g, k, none⟩)) (hr : Row w g 5 cs) : (execOp a.eval op).run Tryd.prog w = .ok (.value (.int .u8 (p : Int))) w := by
 have hc := hr.cell k
 rw [hk] at hc
 unfold execOp
 simp only [ho, hx]
 go_simp
variable {ops : Array Oper} {rest : List Oper} {Q : Exit → Act → World → Prop}
theorem wl_store8 {g k v : Nat} {cs : List Value} (u : Value) (hgd : op.guard = none) (hd : op.dst = none) (hk : cs[k]? = some u) (ho : op.op = .store 5 x y) (hx : a.eval x = .pointer (some ⟨g, k, none⟩)) (hy : a.eval y = .int .u8 (v : Int)) (hr : Row w g 5 cs)
 (h : ∀ w2, Row w2 g 5 (cs.set k (.int .u8 (v : Int))) → But w.heap.size g w w2 → w2.heap.size = w.heap.size → wpList Tryd.prog ops Q rest a w2) : wpList Tryd.prog ops Q (op :: rest) a w := by
 have hc := hr.cell k
 rw [hk] at hc
 have hf := hr.free k
 have hs := hr.set_ k (.int .u8 (v : Int))
 refine wpList_plain hgd fun K hK => ?_
 unfold Oper.wp
 rw [show (execOp a.eval op).run Tryd.prog w = .ok .skip (w.setCell ⟨g, k, none⟩ (.int .u8 (v : Int))) from by
  unfold execOp
  simp only [ho, hx, hy]
  go_simp]
 refine hK _ _ ?_
 rw [hd]
 exact h _ hs ((But.refl _ g w).setCell _ _) (by simp [World.setCell])
end
theorem own_row {w : World} {base n g c : Nat} {xs : List Value} (h : w.ownsRow base 5 1 (.slice (some ⟨g, 0, none⟩) n c) n xs) (hn : 0 < n) : ∃ sp, Row w g 5 (xs ++ sp) ∧ n ≤ c ∧ c ≤ maxLen ∧ base ≤ g := by
 rcases h.2 with ⟨_, h0⟩ | ⟨g', cap, cur, he, h1, h2, h3, h4, _, h6⟩
 ·omega
 ·cases he
  refine ⟨cur.toList.drop (n * 1), ?_, h3, h4, h1⟩
  have h7 : xs ++ cur.toList.drop (n * 1) = cur.toList := by rw [← h6, List.take_append_drop]
  unfold Row
  rw [h7]
  exact h2
theorem sl_row {w : World} {g c : Nat} {bs : List UInt8} {sp : List Value} (h : Row w g 5 (Lib.byteCells bs ++ sp)) (h1 : bs.length ≤ c) (h2 : c ≤ maxLen) : Sl w w.heap.size (.slice (some ⟨g, 0, none⟩) bs.length c) bs :=
 ⟨_, c, rfl, h1, h2, fun _ => ⟨g, 0, rfl, h.lt, fun k hk => by
  rw [Nat.zero_add, h.cell k, List.getElem?_append_left (by rw [Lib.byteCells_length]; exact hk), byteCells_get bs k hk]⟩⟩
theorem cells_set (bs : List UInt8) (sp : List Value) (k v : Nat) (hk : k < bs.length) (hv : v < 256) : (Lib.byteCells bs ++ sp).set k (.int .u8 (v : Int)) = Lib.byteCells (bs.set k (UInt8.ofNat v)) ++ sp := by
 rw [List.set_append_left _ _ (by rw [Lib.byteCells_length]; exact hk)]
 congr 1
 simp [Lib.byteCells, List.map_set]
 rw [show (v : Int) % 256 = (v : Int) by omega]
theorem cells_at (bs : List UInt8) (sp : List Value) (k : Nat) (hk : k < bs.length) : (Lib.byteCells bs ++ sp)[k]? = some (.int .u8 ((bs.getD k 0).toNat : Int)) := by
 rw [List.getElem?_append_left (by rw [Lib.byteCells_length]; exact hk), byteCells_get bs k hk]
 simp [List.getD, List.getElem?_eq_getElem hk]
theorem setLo_drop (bs : List UInt8) (g n : Nat) (hg : g < 384) : (setLo bs g n).drop 1152 = bs.drop 1152 ∧ (setHi bs g n).drop 1152 = bs.drop 1152 := by
 unfold setLo setHi
 constructor
 ·rw [List.drop_set, if_pos (by omega), List.drop_set, if_pos (by omega)]
 ·rw [List.drop_set, if_pos (by omega), List.drop_set, if_pos (by omega)]
set_option maxHeartbeats 8000000 in
theorem kemChecks_no (d z : List UInt8) (at' much : Nat) (hd : d.length = 32) (hz : z.length = 32)  (hno : ¬ allOk (rhoB d)) (w : World) (hv : KVars w) : Calls Tryd.prog 5 #[arrV d, arrV z, .int .u16 (at' : Int), .int .u16 (much : Int)] w (TrueIs w) := by
 unfold TrueIs arrV
 have hpos := hv.pos
 have HLV : Shh (∀ W, KVars W → Calls Tryd.prog 7 #[] W (TrueIs W)) := ⟨fun W hv => live14 W hv⟩
 have HKG : Shh (∀ W, KVars W → Calls Tryd.prog 6 #[.agg (Lib.byteCells d).toArray, .agg (Lib.byteCells z).toArray] W (NoKeysIs W)) := ⟨fun W hv => (KeyGen_any d z hd hz W hv).mono fun e w' h => h.2 hno⟩
 generalize hN : w.heap.size = N at *
 have FA : Shh (Row ((w.alloc (.cells (Lib.byteCells d).toArray 22)).alloc (.cells (Lib.byteCells z).toArray 22)) N 22 (Lib.byteCells d) ∧ Row ((w.alloc (.cells (Lib.byteCells d).toArray 22)).alloc (.cells (Lib.byteCells z).toArray 22)) (N + 1) 22 (Lib.byteCells z) ∧ KVars ((w.alloc (.cells (Lib.byteCells d).toArray 22)).alloc (.cells (Lib.byteCells z).toArray 22)) ∧ 0 < N ∧ Below N w ((w.alloc (.cells (Lib.byteCells d).toArray 22)).alloc (.cells (Lib.byteCells z).toArray 22))) := by
  have b1 := Below.chain (bel1 w (.cells (Lib.byteCells d).toArray 22)) (bel1 _ (.cells (Lib.byteCells z).toArray 22))
  refine ⟨(Row.new_ hN.symm rfl).alloc _, Row.new_ (by rw [asz, hN]) rfl, hv.step b1, hpos, ?_⟩
  rw [← hN]
  exact b1
 have HDL : Shh (d.length = 32 ∧ z.length = 32) := ⟨hd, hz⟩
 clear hd hz hv hpos hno
 go_enter Tryd.func5, Tryd.ntmps5
 go_wp2_with (first | refine wpList_load_any rfl 22 (.tmp 4) rfl N rfl 22 (Lib.byteCells d) _ (FA.out.1) Tryd.underlying22 rfl (size_a32 HDL.out.1) ?_ | refine wpList_load_any rfl 22 (.tmp 5) rfl (N + 1) rfl 22 (Lib.byteCells z) _ (FA.out.2.1) Tryd.underlying22 rfl (size_a32 HDL.out.2) ?_ | (go_at_call 6; refine (HKG.out _ FA.out.2.2.1).mono ?_))
 rintro e w1 ⟨rfl, b1⟩
 have FB : Shh (Row w1 N 22 (Lib.byteCells d) ∧ Row w1 (N + 1) 22 (Lib.byteCells z) ∧ KVars w1 ∧ 0 < N ∧ Below N w w1) := by
  obtain ⟨h0, h1, h2, h3, h4⟩ := FA.out
  have := h0.lt
  have := h1.lt
  have := b1.size
  exact ⟨h0.go b1, h1.go b1, h2.step b1, h3, h4.trans (b1.mono (by omega))⟩
 clear b1 FA HKG
 go_wp2_with (go_at_call 7; refine (HLV.out _ FB.out.2.2.1).mono ?_)
 rintro e w2 ⟨rfl, b2⟩
 have FC : Shh (Row w2 N 22 (Lib.byteCells d) ∧ Row w2 (N + 1) 22 (Lib.byteCells z) ∧ KVars w2 ∧ 0 < N ∧ Below N w w2) := by
  obtain ⟨h0, h1, h2, h3, h4⟩ := FB.out
  have := h0.lt
  have := h1.lt
  have := b2.size
  exact ⟨h0.go b2, h1.go b2, h2.step b2, h3, h4.trans (b2.mono (by omega))⟩
 clear b2 FB
 go_wp2_with (go_at_call 7; refine (HLV.out _ FC.out.2.2.1).mono ?_)
 rintro e w3 ⟨rfl, b3⟩
 have FD : Shh (Row w3 N 22 (Lib.byteCells d) ∧ Row w3 (N + 1) 22 (Lib.byteCells z) ∧ KVars w3 ∧ 0 < N ∧ Below N w w3) := by
  obtain ⟨h0, h1, h2, h3, h4⟩ := FC.out
  have := h0.lt
  have := h1.lt
  have := b3.size
  exact ⟨h0.go b3, h1.go b3, h2.step b3, h3, h4.trans (b3.mono (by omega))⟩
 clear b3 FC
 go_wp2
 go_ret
 exact ⟨rfl, FD.out.2.2.2.2⟩
set_option maxHeartbeats 8000000 in
theorem kemChecks_yes (d z : List UInt8) (at' much : Nat) (hd : d.length = 32) (hz : z.length = 32) (ha : at' < 65536) (hm : much < 65536) (hok : allOk (rhoB d)) (w : World) (hv : KVars w) : Calls Tryd.prog 5 #[arrV d, arrV z, .int .u16 (at' : Int), .int .u16 (much : Int)] w (TrueIs w) := by
 unfold TrueIs arrV
 have hpos := hv.pos
 have HLV : Shh (∀ W, KVars W → Calls Tryd.prog 7 #[] W (TrueIs W)) := ⟨fun W hv => live14 W hv⟩
 have HKG : Shh (∀ W, KVars W → Calls Tryd.prog 6 #[.agg (Lib.byteCells d).toArray, .agg (Lib.byteCells z).toArray] W (KeysIs W (ekB d) (dkF d z))) := ⟨fun W hv => (KeyGen_any d z hd hz W hv).mono fun e w' h => h.1 hok⟩
 have HCE : Shh (∀ W u, Sl W W.heap.size u (ekB d) → Calls Tryd.prog 16 #[u] W (ErIs W 0)) := ⟨fun W u h => by
  have h2 := CheckEk_any (ekB d) (ekB_length d) W.heap.size u W h (Nat.le_refl _)
  rw [if_pos (ekB_can d)] at h2
  exact h2⟩
 have HCD : Shh (∀ W u, Sl W W.heap.size u (dkF d z) → KVars W → Calls Tryd.prog 17 #[u] W (ErIs W 0)) := ⟨fun W u h hv => CheckDk_ok (dkF d z) (dkF_length d z hz) (dkF_ok d z) W.heap.size u W h (Nat.le_refl _) hv⟩
 obtain ⟨g, hg⟩ : ∃ g, g = at' % 384 := ⟨_, rfl⟩
 obtain ⟨r, hr⟩ : ∃ r, r = much % 767 := ⟨_, rfl⟩
 obtain ⟨n, hn⟩ : ∃ n, n = 3329 + r := ⟨_, rfl⟩
 obtain ⟨k, hk⟩ : ∃ k, k = 3 * g := ⟨_, rfl⟩
 have hgl : g < 384 := by omega
 have HNO := set_no (ekB d) (ekB_length d) g n hgl (by omega)
 have HEN : Shh (∀ E, E = setLo (ekB d) g n ∨ E = setHi (ekB d) g n → E.length = 1184 ∧ (∀ W u, Sl W W.heap.size u E → KVars W → Calls Tryd.prog 8 #[u, .agg (Lib.byteCells d).toArray] W (NoEncIs W 140)) ∧ (∀ W u, Sl W W.heap.size u E → Calls Tryd.prog 16 #[u] W (ErIs W 140))) := ⟨fun E hE => by
  have hEL : E.length = 1184 := by rcases hE with rfl | rfl; exact (setLo_length _ _ _).trans (ekB_length d); exact (setHi_length _ _ _).trans (ekB_length d)
  have hEC : ¬ canK (E.take 1152) 3 = true := by rcases hE with rfl | rfl; rw [HNO.1]; decide; rw [HNO.2]; decide
  have hED : E.drop 1152 = rhoB d := by rcases hE with rfl | rfl; exact (setLo_drop _ _ _ hgl).1.trans (ekB_drop d); exact (setLo_drop _ _ _ hgl).2.trans (ekB_drop d)
  refine ⟨hEL, fun W u h hv => (Encaps_any E hEL (by rw [hED]; exact hok) d hd W.heap.size u W h (Nat.le_refl _) hv).mono fun e w' h => h.2 hEC, fun W u h => ?_⟩
  have h2 := CheckEk_any E hEL W.heap.size u W h (Nat.le_refl _)
  rw [if_neg hEC] at h2
  exact h2⟩
 have HLL : Shh ((ekB d).length = 1184 ∧ (dkF d z).length = 2400) := ⟨ekB_length d, dkF_length d z hz⟩
 clear HNO
 generalize ekB d = ek at *
 generalize dkF d z = dk at *
 have i1 : ((ek.length : Int) != 1184) = false := by have := HLL.out.1; simp; omega
 have i2 : ((dk.length : Int) != 2400) = false := by have := HLL.out.2; simp; omega
 obtain ⟨x, hx⟩ : ∃ x, x = (ek.getD (k + 1) 0).toNat := ⟨_, rfl⟩
 have hxl : x < 256 := by rw [hx]; exact UInt8.toNat_lt _
 generalize hN : w.heap.size = N at *
 have FA : Shh (Row ((w.alloc (.cells (Lib.byteCells d).toArray 22)).alloc (.cells (Lib.byteCells z).toArray 22)) N 22 (Lib.byteCells d) ∧ Row ((w.alloc (.cells (Lib.byteCells d).toArray 22)).alloc (.cells (Lib.byteCells z).toArray 22)) (N + 1) 22 (Lib.byteCells z) ∧ KVars ((w.alloc (.cells (Lib.byteCells d).toArray 22)).alloc (.cells (Lib.byteCells z).toArray 22)) ∧ 0 < N ∧ Below N w ((w.alloc (.cells (Lib.byteCells d).toArray 22)).alloc (.cells (Lib.byteCells z).toArray 22))) := by
  have b1 := Below.chain (bel1 w (.cells (Lib.byteCells d).toArray 22)) (bel1 _ (.cells (Lib.byteCells z).toArray 22))
  refine ⟨(Row.new_ hN.symm rfl).alloc _, Row.new_ (by rw [asz, hN]) rfl, hv.step b1, hpos, ?_⟩
  rw [← hN]
  exact b1
 have HDL : Shh (d.length = 32 ∧ z.length = 32) := ⟨hd, hz⟩
 clear hd hz hv hpos hok
 have HR : Shh (g = at' % 384 ∧ r = much % 767 ∧ n = 3329 + r ∧ k = 3 * g ∧ at' < 65536 ∧ much < 65536 ∧ n < 65536 ∧ k < 65536) := ⟨hg, hr, hn, hk, ha, hm, by omega, by omega⟩
 have HKL : Shh (k + 2 < ek.length ∧ n < 4096 ∧ x < 256 ∧ n % 256 < 256) := ⟨by have := HLL.out.1; omega, by omega, hxl, Nat.mod_lt _ (by decide)⟩
 have HX := Shh.mk hx
 clear hg hr hn hk ha hm hgl hx hxl
 go_enter Tryd.func5, Tryd.ntmps5
 go_wp2_with (first | refine wpList_load_any rfl 22 (.tmp 4) rfl N rfl 22 (Lib.byteCells d) _ (FA.out.1) Tryd.underlying22 rfl (size_a32 HDL.out.1) ?_ | refine wpList_load_any rfl 22 (.tmp 5) rfl (N + 1) rfl 22 (Lib.byteCells z) _ (FA.out.2.1) Tryd.underlying22 rfl (size_a32 HDL.out.2) ?_ | (go_at_call 6; refine (HKG.out _ FA.out.2.2.1).mono ?_))
 rintro e w1 ⟨v1, v2, B1, rfl, k1, k2, k3, k4, b1⟩
 obtain ⟨g1, c1, rfl⟩ := own_some k1 (by rw [HLL.out.1]; decide)
 obtain ⟨g2, c2, rfl⟩ := own_some k2 (by rw [HLL.out.2]; decide)
 obtain ⟨sp, k5, k6, k7, k8⟩ := own_row k1 (by rw [HLL.out.1]; decide)
 have HCC : Shh (ek.length ≤ c1 ∧ c1 ≤ maxLen) := ⟨k6, k7⟩
 have FB : Shh (Row w1 N 22 (Lib.byteCells d) ∧ Row w1 (N + 1) 22 (Lib.byteCells z) ∧ KVars w1 ∧ 0 < N ∧ Below N w w1 ∧ Row w1 g1 5 (Lib.byteCells ek ++ sp) ∧ Sl w1 w1.heap.size (.slice (some ⟨g2, 0, none⟩) dk.length c2) (dk) ∧ N + 1 < g1) := by
  obtain ⟨h0, h1, h2, h3, h4⟩ := FA.out
  have := h0.lt
  have := h1.lt
  have := b1.size
  exact ⟨h0.go b1, h1.go b1, h2.step b1, h3, h4.trans (b1.mono (by omega)), k5, Sl.of_own k2, Nat.lt_of_lt_of_le h1.lt k8⟩
 clear b1 FA k1 k2 k3 k4 k5 k6 k7 k8 HKG
 go_wp2_with (go_at_call 7; refine (HLV.out _ FB.out.2.2.1).mono ?_)
 rintro e w2 ⟨rfl, b2⟩
 have FC : Shh (Row w2 N 22 (Lib.byteCells d) ∧ Row w2 (N + 1) 22 (Lib.byteCells z) ∧ KVars w2 ∧ 0 < N ∧ Below N w w2 ∧ Row w2 g1 5 (Lib.byteCells ek ++ sp) ∧ Sl w2 w2.heap.size (.slice (some ⟨g2, 0, none⟩) dk.length c2) (dk) ∧ N + 1 < g1) := by
  obtain ⟨h0, h1, h2, h3, h4, h5, h6, h7⟩ := FB.out
  have := h0.lt
  have := h1.lt
  have := h5.lt
  have := b2.size
  exact ⟨h0.go b2, h1.go b2, h2.step b2, h3, h4.trans (b2.mono (by omega)), h5.go b2, h6.go b2, h7⟩
 clear b2 FB HLV
 go_wp2_with (go_at_call 16; refine (HCE.out _ _ (sl_row (FC.out.2.2.2.2.2.1) HCC.out.1 HCC.out.2)).mono ?_)
 rintro e w3 ⟨rfl, b3⟩
 have FD : Shh (Row w3 N 22 (Lib.byteCells d) ∧ Row w3 (N + 1) 22 (Lib.byteCells z) ∧ KVars w3 ∧ 0 < N ∧ Below N w w3 ∧ Row w3 g1 5 (Lib.byteCells ek ++ sp) ∧ Sl w3 w3.heap.size (.slice (some ⟨g2, 0, none⟩) dk.length c2) (dk) ∧ N + 1 < g1) := by
  obtain ⟨h0, h1, h2, h3, h4, h5, h6, h7⟩ := FC.out
  have := h0.lt
  have := h1.lt
  have := h5.lt
  have := b3.size
  exact ⟨h0.go b3, h1.go b3, h2.step b3, h3, h4.trans (b3.mono (by omega)), h5.go b3, h6.go b3, h7⟩
 clear b3 FC HCE
 go_wp2_with (go_at_call 17; refine (HCD.out _ _ (FD.out.2.2.2.2.2.2.1) FD.out.2.2.1).mono ?_)
 rintro e w4 ⟨rfl, b4⟩
 have FE : Shh (Row w4 N 22 (Lib.byteCells d) ∧ Row w4 (N + 1) 22 (Lib.byteCells z) ∧ KVars w4 ∧ 0 < N ∧ Below N w w4 ∧ Row w4 g1 5 (Lib.byteCells ek ++ sp) ∧ N + 1 < g1) := by
  obtain ⟨h0, h1, h2, h3, h4, h5, h6, h7⟩ := FD.out
  have := h0.lt
  have := h1.lt
  have := h5.lt
  have := b4.size
  exact ⟨h0.go b4, h1.go b4, h2.step b4, h3, h4.trans (b4.mono (by omega)), h5.go b4, h7⟩
 clear b4 FD HCD
 by_cases hev : at' % 2 = 0
 ·obtain ⟨E, hE⟩ : ∃ E, Shh (E = setLo ek g n) := ⟨_, ⟨rfl⟩⟩
  have HE := HEN.out E (.inl hE.out)
  have HEE : Shh (∀ W u, Sl W W.heap.size u E → KVars W → Calls Tryd.prog 8 #[u, .agg (Lib.byteCells d).toArray] W (NoEncIs W 140)) := ⟨HE.2.1⟩
  have HCK : Shh (∀ W u, Sl W W.heap.size u E → Calls Tryd.prog 16 #[u] W (ErIs W 140)) := ⟨HE.2.2⟩
  have HEL : Shh (ek.length = E.length) := ⟨HLL.out.1.trans HE.1.symm⟩
  have HKX := Shh.mk (cells_at ek sp (k + 1) (by have := HKL.out.1; omega))
  rw [← HX.out] at HKX
  obtain ⟨b0, hb0⟩ : ∃ b, Shh (b = n % 256) := ⟨_, ⟨rfl⟩⟩
  obtain ⟨y, hy⟩ : ∃ b, Shh (b = x / 16 * 16) := ⟨_, ⟨rfl⟩⟩
  obtain ⟨q, hq⟩ : ∃ b, Shh (b = n / 2 ^ 8) := ⟨_, ⟨rfl⟩⟩
  obtain ⟨b1, hb1⟩ : ∃ b, Shh (b = y + q) := ⟨_, ⟨rfl⟩⟩
  have HQ : Shh (q = q % 256 ∧ b0 < 256 ∧ b1 < 256 ∧ y < 256 ∧ q < 256) := by have := HKL.out; have := hb0.out; have := hy.out; have := hq.out; have := hb1.out; refine ⟨?_⟩; omega
  have HB1 : Shh (bits .and .u8 (x : Int) 240 = (y : Int)) := ⟨by rw [hy.out]; exact (bits_lo x HKL.out.2.2.1).1⟩
  have HB2 : Shh (bits .or .u8 (y : Int) (q : Int) = (b1 : Int)) := ⟨by
    have h := (bits_hi (x / 16) q (by have := HKL.out; omega) (by have := HKL.out; have := hq.out; omega)).1
    rw [hb1.out, hy.out, Nat.mul_comm]
    exact h⟩
  have HS : Shh (((Lib.byteCells ek ++ sp).set k (.int .u8 (b0 : Int))).set (k + 1) (.int .u8 (b1 : Int)) = Lib.byteCells E ++ sp) := ⟨by
    rw [cells_set ek sp k b0 (by have := HKL.out; omega) HQ.out.2.1, cells_set _ sp (k + 1) b1 (by rw [List.length_set]; have := HKL.out; omega) HQ.out.2.2.1, hE.out]
    unfold setLo
    rw [← HR.out.2.2.2.1, ← HX.out, ← hb0.out, hb1.out, hy.out, hq.out]⟩
  have HK0 := Shh.mk (cells_at ek sp k (by have := HKL.out.1; omega))
  have HK1 : Shh (((Lib.byteCells ek ++ sp).set k (.int .u8 (b0 : Int)))[k + 1]? = some (.int .u8 (x : Int))) := ⟨by rw [List.getElem?_set_ne (by omega)]; exact HKX.out⟩
  have HA : Shh (k + 1 < 65536 ∧ k + 1 < ek.length ∧ k < ek.length ∧ k + 2 < 65536 ∧ k + 2 < ek.length) := by have := HKL.out; have := HLL.out; refine ⟨?_⟩; omega
  have HEV : Shh (0 = at' % 2) := ⟨by omega⟩
  clear hev HE HEN
  go_wp2_with (first | refine wl_at 45 rfl (.int .i64 ((much : Nat) : Int)) rfl (run_conv16 HR.out.2.2.2.2.2.1 rfl rfl) ?_ | refine wl_at 46 rfl (.int .i64 ((r : Nat) : Int)) rfl (run_remI (c := 767) HR.out.2.1 (by decide) HR.out.2.2.2.2.2.1 rfl rfl rfl) ?_ | refine wl_at 47 rfl (.int .i64 ((n : Nat) : Int)) rfl (run_addI (m := 3329) HR.out.2.2.1 HR.out.2.2.2.2.2.2.1 rfl rfl rfl) ?_ | refine wl_at 49 rfl (.int .i64 ((at' : Nat) : Int)) rfl (run_conv16 HR.out.2.2.2.2.1 rfl rfl) ?_ | refine wl_at 50 rfl (.int .i64 ((g : Nat) : Int)) rfl (run_remI (c := 384) HR.out.1 (by decide) HR.out.2.2.2.2.1 rfl rfl rfl) ?_ | refine wl_at 51 rfl (.int .i64 ((k : Nat) : Int)) rfl (run_mulI (c := 3) HR.out.2.2.2.1 HR.out.2.2.2.2.2.2.2 rfl rfl rfl) ?_ | refine wl_at 53 rfl (.int .u16 ((0 : Nat) : Int)) rfl (run_rem16 HEV.out HR.out.2.2.2.2.1 rfl rfl) ?_ | refine wl_at 59 rfl (.int .i64 ((k + 1 : Nat) : Int)) rfl (run_addI rfl HA.out.1 rfl rfl rfl) ?_ | refine wl_at 61 rfl (.int .u8 (b0 : Int)) rfl (run_toU8 hb0.out rfl rfl) ?_ | refine wl_at 64 rfl (.int .i64 ((k + 1 : Nat) : Int)) rfl (run_addI rfl HA.out.1 rfl rfl rfl) ?_ | refine wl_at 65 rfl (.pointer (some ⟨g1, k + 1, none⟩)) rfl (run_indexSc g1 (k + 1) ek.length c1 HA.out.2.1 rfl rfl rfl _) ?_ | refine wl_at 66 rfl (.int .u8 (x : Int)) rfl (run_load8 HKX.out rfl rfl (FE.out.2.2.2.2.2.1)) ?_ | refine wl_at 67 rfl (.int .u8 (y : Int)) rfl (run_bits8 (q := 240) .and (.inl rfl) HB1.out HQ.out.2.2.2.1 rfl rfl rfl) ?_ | refine wl_at 69 rfl (.int .i64 ((q : Nat) : Int)) rfl (run_shrI (d := 8) hq.out (by decide) HR.out.2.2.2.2.2.2.1 rfl rfl rfl) ?_ | refine wl_at 70 rfl (.int .u8 (q : Int)) rfl (run_toU8 HQ.out.1 rfl rfl) ?_ | refine wl_at 71 rfl (.int .u8 (b1 : Int)) rfl (run_bits8 .or (.inr rfl) HB2.out HQ.out.2.2.1 rfl rfl rfl) ?_ | refine wl_at 72 rfl (.pointer (some ⟨g1, k, none⟩)) rfl (run_indexSc g1 k ek.length c1 HA.out.2.2.1 rfl rfl rfl _) ?_ | refine wl_store8 _ rfl rfl HK0.out rfl rfl rfl (FE.out.2.2.2.2.2.1) ?_)
  intro w5 r5 bt5 z5
  have FF : Shh (Row w5 N 22 (Lib.byteCells d) ∧ Row w5 (N + 1) 22 (Lib.byteCells z) ∧ KVars w5 ∧ 0 < N ∧ Below N w w5 ∧ Row w5 g1 5 ((Lib.byteCells ek ++ sp).set k (.int .u8 (b0 : Int))) ∧ N + 1 < g1) := by
   obtain ⟨h0, h1, h2, h3, h4, h5, h6⟩ := FE.out
   have := h0.lt
   have := h1.lt
   have := h5.lt
   have hb := bt5.under (Nat.le_of_lt h5.lt) (Nat.le_refl _)
   have := hb.size
   exact ⟨bt5.row h0 h0.lt (by omega), bt5.row h1 h1.lt (by omega), h2.but bt5 (by omega), h3, h4.trans (hb.mono (by omega)), r5, h6⟩
  clear bt5 FE r5 z5
  go_wp2_with (first | refine wl_at 73 rfl (.pointer (some ⟨g1, k + 1, none⟩)) rfl (run_indexSc g1 (k + 1) ek.length c1 HA.out.2.1 rfl rfl rfl _) ?_ | refine wl_store8 _ rfl rfl HK1.out rfl rfl rfl (FF.out.2.2.2.2.2.1) ?_)
  intro w6 r6 bt6 z6
  rw [HS.out] at r6
  have FG : Shh (Row w6 N 22 (Lib.byteCells d) ∧ Row w6 (N + 1) 22 (Lib.byteCells z) ∧ KVars w6 ∧ 0 < N ∧ Below N w w6 ∧ Row w6 g1 5 (Lib.byteCells E ++ sp) ∧ N + 1 < g1) := by
   obtain ⟨h0, h1, h2, h3, h4, h5, h6⟩ := FF.out
   have := h0.lt
   have := h1.lt
   have := h5.lt
   have hb := bt6.under (Nat.le_of_lt h5.lt) (Nat.le_refl _)
   have := hb.size
   exact ⟨bt6.row h0 h0.lt (by omega), bt6.row h1 h1.lt (by omega), h2.but bt6 (by omega), h3, h4.trans (hb.mono (by omega)), r6, h6⟩
  clear bt6 FF r6 z6
  have HCC2 : Shh (E.length ≤ c1 ∧ c1 ≤ maxLen) := ⟨by rw [← HEL.out]; exact HCC.out.1, HCC.out.2⟩
  have HL2 := HEL.out
  rw [HL2]
  clear HL2 HEL
  go_wp2_with (first | refine wpList_load_any rfl 22 (.tmp 4) rfl N rfl 22 (Lib.byteCells d) _ (FG.out.1) Tryd.underlying22 rfl (size_a32 HDL.out.1) ?_ | (go_at_call 8; refine (HEE.out _ _ (sl_row (FG.out.2.2.2.2.2.1) HCC2.out.1 HCC2.out.2) FG.out.2.2.1).mono ?_))
  rintro e w7 ⟨rfl, b7⟩
  have FH : Shh (Row w7 N 22 (Lib.byteCells d) ∧ Row w7 (N + 1) 22 (Lib.byteCells z) ∧ KVars w7 ∧ 0 < N ∧ Below N w w7 ∧ Row w7 g1 5 (Lib.byteCells E ++ sp) ∧ N + 1 < g1) := by
   obtain ⟨h0, h1, h2, h3, h4, h5, h6⟩ := FG.out
   have := h0.lt
   have := h1.lt
   have := h5.lt
   have := b7.size
   exact ⟨h0.go b7, h1.go b7, h2.step b7, h3, h4.trans (b7.mono (by omega)), h5.go b7, h6⟩
  clear b7 FG HEE
  go_wp2_with (refine wl_new32 14 z32 z32_length rfl rfl rfl rfl rfl rfl rfl rfl ?_)
  intro G14 w11 hG14 r12 b10
  simp only [Act.put, arr9, hd9, tl9]
  have FI : Shh (Row w11 N 22 (Lib.byteCells d) ∧ Row w11 (N + 1) 22 (Lib.byteCells z) ∧ KVars w11 ∧ 0 < N ∧ Below N w w11 ∧ Row w11 g1 5 (Lib.byteCells E ++ sp) ∧ N + 1 < g1 ∧ Row w11 G14 22 (Lib.byteCells z32)) := by
   obtain ⟨h0, h1, h2, h3, h4, h5, h6⟩ := FH.out
   have := h0.lt
   have := h1.lt
   have := h5.lt
   have := b10.size
   have := hG14.out
   exact ⟨h0.go b10, h1.go b10, h2.step b10, h3, h4.trans (b10.mono (by omega)), h5.go b10, h6, r12⟩
  clear b10 FH r12 hG14
  go_wp2_with (go_at_call 16; refine (HCK.out _ _ (sl_row (FI.out.2.2.2.2.2.1) HCC2.out.1 HCC2.out.2)).mono ?_)
  rintro e w8 ⟨rfl, b8⟩
  have FJ : Shh (Row w8 N 22 (Lib.byteCells d) ∧ Row w8 (N + 1) 22 (Lib.byteCells z) ∧ KVars w8 ∧ 0 < N ∧ Below N w w8 ∧ Row w8 g1 5 (Lib.byteCells E ++ sp) ∧ N + 1 < g1 ∧ Row w8 G14 22 (Lib.byteCells z32)) := by
   obtain ⟨h0, h1, h2, h3, h4, h5, h6, h7⟩ := FI.out
   have := h0.lt
   have := h1.lt
   have := h5.lt
   have := h7.lt
   have := b8.size
   exact ⟨h0.go b8, h1.go b8, h2.step b8, h3, h4.trans (b8.mono (by omega)), h5.go b8, h6, h7.go b8⟩
  clear b8 FI HCK
  go_wp2
  go_ret
  exact ⟨rfl, FJ.out.2.2.2.2.1⟩
 ·obtain ⟨E, hE⟩ : ∃ E, Shh (E = setHi ek g n) := ⟨_, ⟨rfl⟩⟩
  have HE := HEN.out E (.inr hE.out)
  have HEE : Shh (∀ W u, Sl W W.heap.size u E → KVars W → Calls Tryd.prog 8 #[u, .agg (Lib.byteCells d).toArray] W (NoEncIs W 140)) := ⟨HE.2.1⟩
  have HCK : Shh (∀ W u, Sl W W.heap.size u E → Calls Tryd.prog 16 #[u] W (ErIs W 140)) := ⟨HE.2.2⟩
  have HEL : Shh (ek.length = E.length) := ⟨HLL.out.1.trans HE.1.symm⟩
  have HKX := Shh.mk (cells_at ek sp (k + 1) (by have := HKL.out.1; omega))
  rw [← HX.out] at HKX
  obtain ⟨y, hy⟩ : ∃ b, Shh (b = x % 16) := ⟨_, ⟨rfl⟩⟩
  obtain ⟨q, hq⟩ : ∃ b, Shh (b = n * 2 ^ 4) := ⟨_, ⟨rfl⟩⟩
  obtain ⟨q2, hq2⟩ : ∃ b, Shh (b = q % 256) := ⟨_, ⟨rfl⟩⟩
  obtain ⟨b0, hb0⟩ : ∃ b, Shh (b = y + q2) := ⟨_, ⟨rfl⟩⟩
  obtain ⟨b1, hb1⟩ : ∃ b, Shh (b = n / 2 ^ 4) := ⟨_, ⟨rfl⟩⟩
  have HQ : Shh (q < 1000000 ∧ b0 < 256 ∧ b1 < 256 ∧ y < 256 ∧ q2 = 16 * (n % 16) ∧ b1 = b1 % 256) := by have := HKL.out; have := hb0.out; have := hy.out; have := hq.out; have := hq2.out; have := hb1.out; refine ⟨?_⟩; omega
  have HB1 : Shh (bits .and .u8 (x : Int) 15 = (y : Int)) := ⟨by rw [hy.out]; exact (bits_lo x HKL.out.2.2.1).2⟩
  have HB2 : Shh (bits .or .u8 (y : Int) (q2 : Int) = (b0 : Int)) := ⟨by
    have h := (bits_hi (n % 16) y (by omega) (by have := hy.out; omega)).2
    rw [hb0.out, HQ.out.2.2.2.2.1]
    exact h⟩
  have HS : Shh (((Lib.byteCells ek ++ sp).set (k + 1) (.int .u8 (b0 : Int))).set (k + 2) (.int .u8 (b1 : Int)) = Lib.byteCells E ++ sp) := ⟨by
    rw [cells_set ek sp (k + 1) b0 (by have := HKL.out; omega) HQ.out.2.1, cells_set _ sp (k + 2) b1 (by rw [List.length_set]; have := HKL.out; omega) HQ.out.2.2.1, hE.out]
    unfold setHi
    rw [← HR.out.2.2.2.1, ← HX.out, hb0.out, hy.out, HQ.out.2.2.2.2.1, hb1.out, Nat.mul_comm 16]⟩
  have HK1 : Shh (((Lib.byteCells ek ++ sp).set (k + 1) (.int .u8 (b0 : Int)))[k + 2]? = some (.int .u8 ((ek.getD (k + 2) 0).toNat : Int))) := ⟨by rw [List.getElem?_set_ne (by omega)]; exact cells_at ek sp (k + 2) HKL.out.1⟩
  have HA : Shh (k + 1 < 65536 ∧ k + 1 < ek.length ∧ k < ek.length ∧ k + 2 < 65536 ∧ k + 2 < ek.length) := by have := HKL.out; have := HLL.out; refine ⟨?_⟩; omega
  have HEV : Shh (1 = at' % 2) := ⟨by omega⟩
  clear hev HE HEN
  go_wp2_with (first | refine wl_at 45 rfl (.int .i64 ((much : Nat) : Int)) rfl (run_conv16 HR.out.2.2.2.2.2.1 rfl rfl) ?_ | refine wl_at 46 rfl (.int .i64 ((r : Nat) : Int)) rfl (run_remI (c := 767) HR.out.2.1 (by decide) HR.out.2.2.2.2.2.1 rfl rfl rfl) ?_ | refine wl_at 47 rfl (.int .i64 ((n : Nat) : Int)) rfl (run_addI (m := 3329) HR.out.2.2.1 HR.out.2.2.2.2.2.2.1 rfl rfl rfl) ?_ | refine wl_at 49 rfl (.int .i64 ((at' : Nat) : Int)) rfl (run_conv16 HR.out.2.2.2.2.1 rfl rfl) ?_ | refine wl_at 50 rfl (.int .i64 ((g : Nat) : Int)) rfl (run_remI (c := 384) HR.out.1 (by decide) HR.out.2.2.2.2.1 rfl rfl rfl) ?_ | refine wl_at 51 rfl (.int .i64 ((k : Nat) : Int)) rfl (run_mulI (c := 3) HR.out.2.2.2.1 HR.out.2.2.2.2.2.2.2 rfl rfl rfl) ?_ | refine wl_at 53 rfl (.int .u16 ((1 : Nat) : Int)) rfl (run_rem16 HEV.out HR.out.2.2.2.2.1 rfl rfl) ?_ | refine wl_at 76 rfl (.int .i64 ((k + 1 : Nat) : Int)) rfl (run_addI rfl HA.out.1 rfl rfl rfl) ?_ | refine wl_at 79 rfl (.int .i64 ((k + 2 : Nat) : Int)) rfl (run_addI rfl HA.out.2.2.2.1 rfl rfl rfl) ?_ | refine wl_at 82 rfl (.int .i64 ((k + 1 : Nat) : Int)) rfl (run_addI rfl HA.out.1 rfl rfl rfl) ?_ | refine wl_at 83 rfl (.pointer (some ⟨g1, k + 1, none⟩)) rfl (run_indexSc g1 (k + 1) ek.length c1 HA.out.2.1 rfl rfl rfl _) ?_ | refine wl_at 84 rfl (.int .u8 (x : Int)) rfl (run_load8 HKX.out rfl rfl (FE.out.2.2.2.2.2.1)) ?_ | refine wl_at 85 rfl (.int .u8 (y : Int)) rfl (run_bits8 (q := 15) .and (.inl rfl) HB1.out HQ.out.2.2.2.1 rfl rfl rfl) ?_ | refine wl_at 87 rfl (.int .i64 ((q : Nat) : Int)) rfl (run_shlI (d := 4) hq.out (by decide) HQ.out.1 rfl rfl rfl) ?_ | refine wl_at 88 rfl (.int .u8 (q2 : Int)) rfl (run_toU8 hq2.out rfl rfl) ?_ | refine wl_at 89 rfl (.int .u8 (b0 : Int)) rfl (run_bits8 .or (.inr rfl) HB2.out HQ.out.2.1 rfl rfl rfl) ?_ | refine wl_at 91 rfl (.int .i64 ((b1 : Nat) : Int)) rfl (run_shrI (d := 4) hb1.out (by decide) HR.out.2.2.2.2.2.2.1 rfl rfl rfl) ?_ | refine wl_at 92 rfl (.int .u8 (b1 : Int)) rfl (run_toU8 HQ.out.2.2.2.2.2 rfl rfl) ?_ | refine wl_at 93 rfl (.pointer (some ⟨g1, k + 1, none⟩)) rfl (run_indexSc g1 (k + 1) ek.length c1 HA.out.2.1 rfl rfl rfl _) ?_ | refine wl_store8 _ rfl rfl HKX.out rfl rfl rfl (FE.out.2.2.2.2.2.1) ?_)
  intro w5 r5 bt5 z5
  have FF : Shh (Row w5 N 22 (Lib.byteCells d) ∧ Row w5 (N + 1) 22 (Lib.byteCells z) ∧ KVars w5 ∧ 0 < N ∧ Below N w w5 ∧ Row w5 g1 5 ((Lib.byteCells ek ++ sp).set (k + 1) (.int .u8 (b0 : Int))) ∧ N + 1 < g1) := by
   obtain ⟨h0, h1, h2, h3, h4, h5, h6⟩ := FE.out
   have := h0.lt
   have := h1.lt
   have := h5.lt
   have hb := bt5.under (Nat.le_of_lt h5.lt) (Nat.le_refl _)
   have := hb.size
   exact ⟨bt5.row h0 h0.lt (by omega), bt5.row h1 h1.lt (by omega), h2.but bt5 (by omega), h3, h4.trans (hb.mono (by omega)), r5, h6⟩
  clear bt5 FE r5 z5
  go_wp2_with (first | refine wl_at 94 rfl (.pointer (some ⟨g1, k + 2, none⟩)) rfl (run_indexSc g1 (k + 2) ek.length c1 HA.out.2.2.2.2 rfl rfl rfl _) ?_ | refine wl_store8 _ rfl rfl HK1.out rfl rfl rfl (FF.out.2.2.2.2.2.1) ?_)
  intro w6 r6 bt6 z6
  rw [HS.out] at r6
  have FG : Shh (Row w6 N 22 (Lib.byteCells d) ∧ Row w6 (N + 1) 22 (Lib.byteCells z) ∧ KVars w6 ∧ 0 < N ∧ Below N w w6 ∧ Row w6 g1 5 (Lib.byteCells E ++ sp) ∧ N + 1 < g1) := by
   obtain ⟨h0, h1, h2, h3, h4, h5, h6⟩ := FF.out
   have := h0.lt
   have := h1.lt
   have := h5.lt
   have hb := bt6.under (Nat.le_of_lt h5.lt) (Nat.le_refl _)
   have := hb.size
   exact ⟨bt6.row h0 h0.lt (by omega), bt6.row h1 h1.lt (by omega), h2.but bt6 (by omega), h3, h4.trans (hb.mono (by omega)), r6, h6⟩
  clear bt6 FF r6 z6
  have HCC2 : Shh (E.length ≤ c1 ∧ c1 ≤ maxLen) := ⟨by rw [← HEL.out]; exact HCC.out.1, HCC.out.2⟩
  have HL2 := HEL.out
  rw [HL2]
  clear HL2 HEL
  go_wp2_with (first | refine wpList_load_any rfl 22 (.tmp 4) rfl N rfl 22 (Lib.byteCells d) _ (FG.out.1) Tryd.underlying22 rfl (size_a32 HDL.out.1) ?_ | (go_at_call 8; refine (HEE.out _ _ (sl_row (FG.out.2.2.2.2.2.1) HCC2.out.1 HCC2.out.2) FG.out.2.2.1).mono ?_))
  rintro e w7 ⟨rfl, b7⟩
  have FH : Shh (Row w7 N 22 (Lib.byteCells d) ∧ Row w7 (N + 1) 22 (Lib.byteCells z) ∧ KVars w7 ∧ 0 < N ∧ Below N w w7 ∧ Row w7 g1 5 (Lib.byteCells E ++ sp) ∧ N + 1 < g1) := by
   obtain ⟨h0, h1, h2, h3, h4, h5, h6⟩ := FG.out
   have := h0.lt
   have := h1.lt
   have := h5.lt
   have := b7.size
   exact ⟨h0.go b7, h1.go b7, h2.step b7, h3, h4.trans (b7.mono (by omega)), h5.go b7, h6⟩
  clear b7 FG HEE
  go_wp2_with (refine wl_new32 14 z32 z32_length rfl rfl rfl rfl rfl rfl rfl rfl ?_)
  intro G14 w11 hG14 r12 b10
  simp only [Act.put, arr9, hd9, tl9]
  have FI : Shh (Row w11 N 22 (Lib.byteCells d) ∧ Row w11 (N + 1) 22 (Lib.byteCells z) ∧ KVars w11 ∧ 0 < N ∧ Below N w w11 ∧ Row w11 g1 5 (Lib.byteCells E ++ sp) ∧ N + 1 < g1 ∧ Row w11 G14 22 (Lib.byteCells z32)) := by
   obtain ⟨h0, h1, h2, h3, h4, h5, h6⟩ := FH.out
   have := h0.lt
   have := h1.lt
   have := h5.lt
   have := b10.size
   have := hG14.out
   exact ⟨h0.go b10, h1.go b10, h2.step b10, h3, h4.trans (b10.mono (by omega)), h5.go b10, h6, r12⟩
  clear b10 FH r12 hG14
  go_wp2_with (go_at_call 16; refine (HCK.out _ _ (sl_row (FI.out.2.2.2.2.2.1) HCC2.out.1 HCC2.out.2)).mono ?_)
  rintro e w8 ⟨rfl, b8⟩
  have FJ : Shh (Row w8 N 22 (Lib.byteCells d) ∧ Row w8 (N + 1) 22 (Lib.byteCells z) ∧ KVars w8 ∧ 0 < N ∧ Below N w w8 ∧ Row w8 g1 5 (Lib.byteCells E ++ sp) ∧ N + 1 < g1 ∧ Row w8 G14 22 (Lib.byteCells z32)) := by
   obtain ⟨h0, h1, h2, h3, h4, h5, h6, h7⟩ := FI.out
   have := h0.lt
   have := h1.lt
   have := h5.lt
   have := h7.lt
   have := b8.size
   exact ⟨h0.go b8, h1.go b8, h2.step b8, h3, h4.trans (b8.mono (by omega)), h5.go b8, h6, h7.go b8⟩
  clear b8 FI HCK
  go_wp2
  go_ret
  exact ⟨rfl, FJ.out.2.2.2.2.1⟩
theorem kemChecks_law (d z : List UInt8) (at' much : Nat) (hd : d.length = 32) (hz : z.length = 32) (ha : at' < 65536) (hm : much < 65536) (w : World) (hv : KVars w) : Calls Tryd.prog 5 #[arrV d, arrV z, .int .u16 (at' : Int), .int .u16 (much : Int)] w (TrueIs w) := by
 by_cases h : allOk (rhoB d)
 ·exact kemChecks_yes d z at' much hd hz ha hm h w hv
 ·exact kemChecks_no d z at' much hd hz h w hv
end Go.Proofs.YtbjpbeplpljieaaDoor
