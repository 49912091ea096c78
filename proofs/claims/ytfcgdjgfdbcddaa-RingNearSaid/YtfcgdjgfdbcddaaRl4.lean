/-
 THE LAW RingNear.
-/
import Derived.Test.YtfcgdjgfdbcddaaRq10
import Derived.Test.YtfcgdjgfdbcddaaRq9
import Derived.Test.YtfcgdjgfdbcddaaRg5
namespace Go.Proofs.Ytfcgdjgfdbcddaa
open Go.RowKit
set_option maxRecDepth 100000
section
variable {a : Act} {x y : Operand} {op : Oper} {w : World}
theorem conv_uint {n : Nat} (hn : n ≤ 1000) (ho : op.op = .convert 3 42 x) (hx : a.eval x = .int .i64 (n : Int)) : (execOp a.eval op).run Try.prog w = .ok (.value (.int .u64 (n : Int))) w := by
 have hw : IntKind.u64.wrap (n : Int) = (n : Int) := by rw [IntKind.wrap_u64]; omega
 have hm : (n : Int) % 18446744073709551616 = (n : Int) := by omega
 unfold execOp
 simp only [ho, hx]
 go_simp
theorem shl_uint {c d k : Nat} (h : k = c * 2 ^ d) (hd : d ≤ 31) (hk : k ≤ 1000000000000) (ho : op.op = .binOp .shl 3 x y 42) (hx : a.eval x = .int .i64 (c : Int)) (hy : a.eval y = .int .u64 (d : Int)) : (execOp a.eval op).run Try.prog w = .ok (.value (.int .i64 (k : Int))) w := by
 have h1 : ¬ (d : Int) < 0 := by omega
 have h2 : (d : Int).toNat = d := by omega
 have h3 : min d 64 = d := by omega
 have he : (c : Int) * 2 ^ d = (k : Int) := by rw [h, Int.natCast_mul, Int.natCast_pow]; rfl
 have hw : IntKind.i64.wrap (k : Int) = (k : Int) := by rw [IntKind.wrap_i64]; omega
 clear h
 unfold execOp
 simp only [ho, hx, hy]
 go_simp
theorem min_ii {i j m : Int} {T T' : TypeId} (hm : (if j < i then j else i) = m) (ho : op.op = .call { callee := .builtin .min, args := #[x, y], argTypes := #[T, T'] }) (hx : a.eval x = .int .i64 i) (hy : a.eval y = .int .i64 j) : (execOp a.eval op).run Try.prog w = .ok (.value (.int .i64 m)) w := by
 have hrun := run_min_int2 (P := Try.prog) (w := w) #[T, T'] op.type .i64 .i64 i j
 rw [hm] at hrun
 simp [execOp, ho, resolve, invoke, builtin, hx, hy, hrun, Result.andThen]
end
/-- what the chapter says of a number: it is near -/
theorem near_one (d x : Nat) (hd : 1 ≤ d ∧ d ≤ 11) (hx : x < 3329) : cmpN d x < 2 ^ d ∧ dcmN d (cmpN d x) < 3329 ∧ min ((dcmN d (cmpN d x) + 3329 - x) % 3329) (3329 - (dcmN d (cmpN d x) + 3329 - x) % 3329) ≤ (2 * 3329 + 2 ^ (d + 1)) / (2 * 2 ^ (d + 1)) := by
 obtain ⟨e, rfl⟩ : ∃ e, d = e + 1 := ⟨d - 1, by omega⟩
 have h := List.all_eq_true.1 (List.all_eq_true.1 near_all e (List.mem_range.2 (by omega))) x (List.mem_range.2 hx)
 simpa only [decide_eq_true_eq] using h
theorem dcm_cmp (d : Nat) (p : Nat → Nat) (i : Nat) : dcmP d (cmpP d p) i = dcmN d (cmpN d (p i % 3329)) := by
 unfold dcmP cmpP
 rw [Nat.mod_eq_of_lt (cmpN_lt _ _)]
set_option maxHeartbeats 2000000 in
theorem near_good (d : Nat) (hd : 1 ≤ d ∧ d ≤ 11) (p : Nat → Nat) (hp : ∀ i, i < 256 → p i < 65536) (w : World) : Calls Try.prog 12 #[.int .i64 (d : Int), polyV p] w (TrueIs w) := by
 unfold TrueIs polyV
 generalize hN : w.heap.size = N at *
 have HLV : Shh (∀ W, Calls Try.prog 13 #[] W (TrueIs W)) := ⟨live13⟩
 obtain ⟨x, y, HX, HY, HQ⟩ : ∃ x y : Nat → Nat, Shh (∀ W, Calls Try.prog 28 #[.int .i64 (d : Int), .agg (pc p).toArray] W (CodeIs W x 0)) ∧ Shh (∀ W, Calls Try.prog 30 #[.int .i64 (d : Int), .agg (pc x).toArray] W (CodeIs W y 0)) ∧ Shh (∀ i, i < 256 → p i < 65536 ∧ y i < 3329 ∧ x i < 2 ^ d ∧ min ((y i + 3329 - p i % 3329) % 3329) (3329 - (y i + 3329 - p i % 3329) % 3329) ≤ (2 * 1 * 3329 + 2 * 2 ^ d) / (2 * (2 * 2 ^ d))) := by
  have h11 : 2 ^ d ≤ 2048 := Nat.le_trans (Nat.pow_le_pow_right (by decide) hd.2) (by decide)
  refine ⟨cmpP d p, dcmP d (cmpP d p), ⟨fun W => Compress_any d hd p hp W⟩, ⟨fun W => Decompress_any d hd _ (fun i _ => by have := cmpN_lt d (p i % 3329); unfold cmpP; omega) W⟩, ⟨fun i hi => ?_⟩⟩
  rw [dcm_cmp]
  obtain ⟨h1, h2, h3⟩ := near_one d (p i % 3329) hd (Nat.mod_lt _ (by decide))
  refine ⟨hp i hi, h2, h1, ?_⟩
  rw [Nat.pow_succ, Nat.mul_comm (2 ^ d) 2] at h3
  exact h3
 obtain ⟨P, HP⟩ : ∃ P, Shh (P = 2 ^ d) := ⟨_, ⟨rfl⟩⟩
 have HP2 : Shh (P ≤ 2048 ∧ 0 < P ∧ d ≤ 31 ∧ d ≤ 1000 ∧ P = 1 * 2 ^ d) := ⟨by rw [HP.out]; exact Nat.le_trans (Nat.pow_le_pow_right (by decide) hd.2) (by decide), by rw [HP.out]; exact Nat.two_pow_pos d, by omega, by omega, by rw [HP.out, Nat.one_mul]⟩
 rw [← HP.out] at HQ
 obtain ⟨D, HD⟩ : ∃ D, Shh (D = 2 * 2 ^ d ∧ D = 2 * P) := ⟨_, ⟨rfl, by rw [HP.out]⟩⟩
 rw [← HD.out.2] at HQ
 have HD2 : Shh (D ≤ 1000000000000 ∧ 0 < D ∧ D ≤ 100000 ∧ P ≤ 1000000000000) := ⟨by have := HP2.out; have := HD.out.2; omega, by have := HP2.out; have := HD.out.2; omega, by have := HP2.out; have := HD.out.2; omega, by have := HP2.out; omega⟩
 obtain ⟨M, HM⟩ : ∃ M, Shh (M = (2 * 1 * 3329 + D) / (2 * D)) := ⟨_, ⟨rfl⟩⟩
 rw [← HM.out] at HQ
 have HNR : Shh (∀ W, Calls Try.prog 41 #[.int .i64 1, .int .i64 3329, .int .i64 (D : Int)] W (NumIs W M)) := ⟨fun W => by rw [HM.out]; exact Near_any 1 3329 D (by decide) (by decide) ⟨HD2.out.2.1, HD2.out.2.2.1⟩ W⟩
 clear hp hd HM HP
 obtain ⟨S0, hS0⟩ : ∃ S0, S0 = w.alloc (.cells (pc p).toArray 24) := ⟨_, rfl⟩
 have HW : Shh (Row S0 N 24 (pc p) ∧ Below N w S0) := by
  refine ⟨by rw [hS0]; exact Row.new_ hN.symm rfl, ?_⟩
  rw [hS0, ← hN]
  exact bel1 _ _
 rw [hS0] at HW
 clear hS0
 go_enter Try.func12, Try.ntmps12
 go_wp2_with (first | refine wpList_load_any rfl 24 (.tmp 3) rfl N rfl 24 (pc p) (.array 256 22) HW.out.1 Try.underlying24 rfl (info_poly.trans (size_poly p)) ?_ | (go_at_call 28; refine (HX.out _).mono ?_))
 rintro e w2 ⟨rfl, b2⟩
 have HI : Shh (Row w2 N 24 (pc p) ∧ Below N w w2) := ⟨HW.out.1.go b2, HW.out.2.trans (b2.mono (by have := HW.out.1.lt; omega))⟩
 clear b2 HW HX S0
 go_wp2_with (refine wl_newP 5 x rfl rfl rfl rfl rfl rfl rfl rfl ?_)
 intro G1 w3 hG1 r3 b3
 simp only [Act.put, arr9, hd9, tl9]
 have HJ : Shh (Row w3 N 24 (pc p) ∧ Row w3 G1 24 (pc x) ∧ Below N w w3) := ⟨HI.out.1.go b3, r3, HI.out.2.trans (b3.mono (Nat.le_of_lt HI.out.1.lt))⟩
 clear r3 b3 HI hG1
 go_wp2_with (first | refine wpList_load_any rfl 24 (.tmp 5) rfl G1 rfl 24 (pc x) (.array 256 22) HJ.out.2.1 Try.underlying24 rfl (info_poly.trans (size_poly x)) ?_ | (go_at_call 30; refine (HY.out _).mono ?_))
 rintro e w4 ⟨rfl, b2⟩
 have HI : Shh (Row w4 N 24 (pc p) ∧ Row w4 G1 24 (pc x) ∧ Below N w w4) := ⟨HJ.out.1.go b2, HJ.out.2.1.go b2, HJ.out.2.2.trans (b2.mono (Nat.le_of_lt HJ.out.1.lt))⟩
 clear b2 HJ HY
 go_wp2_with (refine wl_newP 7 y rfl rfl rfl rfl rfl rfl rfl rfl ?_)
 intro G2 w5 hG2 r3 b3
 simp only [Act.put, arr9, hd9, tl9]
 have HJ : Shh (Row w5 N 24 (pc p) ∧ Row w5 G1 24 (pc x) ∧ Row w5 G2 24 (pc y) ∧ Below N w w5) := ⟨HI.out.1.go b3, HI.out.2.1.go b3, r3, HI.out.2.2.trans (b3.mono (Nat.le_of_lt HI.out.1.lt))⟩
 clear r3 b3 HI hG2
 go_wp2_with (go_at_call 13; refine (HLV.out _).mono ?_)
 rintro e w6 ⟨rfl, b2⟩
 have HI : Shh (Row w6 N 24 (pc p) ∧ Row w6 G1 24 (pc x) ∧ Row w6 G2 24 (pc y) ∧ Below N w w6) := ⟨HJ.out.1.go b2, HJ.out.2.1.go b2, HJ.out.2.2.1.go b2, HJ.out.2.2.2.trans (b2.mono (Nat.le_of_lt HJ.out.1.lt))⟩
 clear b2 HJ HLV
 go_wp2_with (first | refine wl_at 44 rfl (.int .u64 (d : Int)) rfl (conv_uint HP2.out.2.2.2.1 rfl rfl) ?_ | refine wl_at 45 rfl (.int .i64 (D : Int)) rfl (shl_uint (c := 2) (d := d) HD.out.1 HP2.out.2.2.1 HD2.out.1 rfl rfl rfl) ?_ | (go_at_call 41; refine (HNR.out _).mono ?_))
 rintro e w7 ⟨rfl, rfl⟩
 go_wp2
 go_loopw [47] (fun i wr => ∃ k : Nat, k ≤ 256 ∧ i = .int .i64 (k : Int) ∧ Shh (Row wr N 24 (pc p) ∧ Row wr G1 24 (pc x) ∧ Row wr G2 24 (pc y) ∧ Below N w wr)) (fun i _ => 256 - (intOf i).toNat)
 case atStart => exact ⟨0, Nat.zero_le _, rfl, HI⟩
 case round =>
  clear HI
  obtain ⟨k, hk, rfl, HI⟩ := hrel
  by_cases hlt : k < 256
  ·have hlt2 : (k : Int) < 256 := by omega
   obtain ⟨h1, h2, h3, h4⟩ := HQ.out k hlt
   have c1 := HI.out.1.drew.cell k
   rw [pc_get _ hlt] at c1
   have c2 := HI.out.2.1.drew.cell k
   rw [pc_get _ hlt] at c2
   have c3 := HI.out.2.2.1.drew.cell k
   rw [pc_get _ hlt] at c3
   generalize p k = a1 at *
   generalize x k = x1 at *
   generalize y k = y1 at *
   obtain ⟨r, Hr⟩ : ∃ r, Shh (r = a1 % 3329) := ⟨_, ⟨rfl⟩⟩
   rw [← Hr.out] at h4
   obtain ⟨s, Hs⟩ : ∃ s, Shh (s = y1 + 3329 ∧ s ≤ 1000000000000) := ⟨_, ⟨rfl, by omega⟩⟩
   obtain ⟨t, Ht⟩ : ∃ t, Shh (s = t + r ∧ s ≤ 1000000000000) := ⟨s - r, ⟨by have := Hs.out; have := Hr.out; omega, Hs.out.2⟩⟩
   obtain ⟨f, Hf⟩ : ∃ f, Shh (f = t % 3329 ∧ t ≤ 1000000000000) := ⟨_, ⟨rfl, by have := Ht.out; have := Hs.out; omega⟩⟩
   obtain ⟨g, Hg⟩ : ∃ g, Shh (3329 = g + f ∧ 3329 ≤ 1000000000000) := ⟨3329 - f, ⟨by have := Hf.out; omega, by decide⟩⟩
   have HV : Shh (a1 < 65536 ∧ r < 65536 ∧ y1 < 65536 ∧ x1 < 65536 ∧ min f g ≤ M ∧ x1 < P) := ⟨by omega, by have := Hr.out; omega, by omega, by have := HP2.out; omega, by
    have e1 : t = y1 + 3329 - r := by have := Ht.out; have := Hs.out; omega
    rw [← e1, ← Hf.out.1] at h4
    have e2 : 3329 - f = g := by have := Hg.out; omega
    rw [e2] at h4
    exact h4, h3⟩
   obtain ⟨m, Hm⟩ : ∃ m : Nat, Shh ((if (g : Int) < (f : Int) then (g : Int) else (f : Int)) = (m : Int) ∧ m = min f g) := by
    refine ⟨min f g, ⟨?_, rfl⟩⟩
    split <;> omega
   have i1 : ¬ (M : Int) < (m : Int) := by have := HV.out; have := Hm.out.2; omega
   have i2 : ¬ wrap64 (2 ^ min (IntKind.u64.wrap (d : Int)).toNat 64) ≤ wrap64 (x1 : Int) := by
    have h5 := HV.out
    have h6 := HP2.out
    have e1 : (IntKind.u64.wrap (d : Int)).toNat = d := by rw [IntKind.wrap_u64]; omega
    have e2 : ((2 : Int) ^ d) = (P : Int) := by rw [h6.2.2.2.2, Nat.one_mul, Int.natCast_pow]; rfl
    rw [e1, show min d 64 = d by omega, e2]
    unfold wrap64
    omega
   have HC := Shh.mk (And.intro c1 c3)
   have HC2 := Shh.mk c2
   clear h1 h2 h3 h4 c1 c2 c3
   go_wp2
   refine wp_region_held_drew (S := fun w' => w'.cell? ⟨N, k, none⟩ = some (.int .u16 (a1 : Int)) ∧ w'.cell? ⟨G2, k, none⟩ = some (.int .u16 (y1 : Int))) (by kernel_rfl) HC.out (fun hS => ?_)
   clear hS
   obtain ⟨U, hU⟩ : ∃ V, V = World.drew wr := ⟨_, rfl⟩
   rw [← hU] at HC HC2 ⊢
   have HIU : Shh (Row U N 24 (pc p) ∧ Row U G1 24 (pc x) ∧ Row U G2 24 (pc y) ∧ Below N w U) := by rw [hU]; exact ⟨HI.out.1.drew, HI.out.2.1.drew, HI.out.2.2.1.drew, HI.out.2.2.2.drew⟩
   clear HI hU
   refine hdv0 0 50 (.int .i64 (k : Int)) (by rfl) (HC.out) ?_
   refine hdv 1 51 (.pointer (some ⟨G2, k, none⟩)) (by rfl) (fun w hS => at_poly hlt rfl (by kernel_rfl) (by kernel_rfl)) (HC.out) ?_
   refine hdv 2 52 (.int .u16 (y1 : Int)) (by rfl) (fun w hS => load_u16 rfl hS.2 (by kernel_rfl)) (HC.out) ?_
   refine hdv 3 53 (.int .i64 (y1 : Int)) (by rfl) (fun w hS => conv_ui16 HV.out.2.2.1 rfl (by kernel_rfl)) (HC.out) ?_
   refine hdv 4 54 (.int .i64 (s : Int)) (by rfl) (fun w hS => add_ii (i := y1) (j := 3329) Hs.out rfl (by kernel_rfl) (by kernel_rfl)) (HC.out) ?_
   refine hdv0 5 55 (.int .i64 (k : Int)) (by rfl) (HC.out) ?_
   refine hdv 6 56 (.pointer (some ⟨N, k, none⟩)) (by rfl) (fun w hS => at_poly hlt rfl (by kernel_rfl) (by kernel_rfl)) (HC.out) ?_
   refine hdv 7 57 (.int .u16 (a1 : Int)) (by rfl) (fun w hS => load_u16 rfl hS.1 (by kernel_rfl)) (HC.out) ?_
   refine hdv 8 58 (.int .u16 (r : Int)) (by rfl) (fun w hS => rem_u16 Hr.out HV.out.1 rfl (by kernel_rfl)) (HC.out) ?_
   refine hdv 9 59 (.int .i64 (r : Int)) (by rfl) (fun w hS => conv_ui16 HV.out.2.1 rfl (by kernel_rfl)) (HC.out) ?_
   refine hdv 10 60 (.int .i64 (t : Int)) (by rfl) (fun w hS => sub_ii (i := s) (j := r) Ht.out rfl (by kernel_rfl) (by kernel_rfl)) (HC.out) ?_
   refine hdv 11 61 (.int .i64 (f : Int)) (by rfl) (fun w hS => rem_iq (n := t) Hf.out.1 Hf.out.2 rfl (by kernel_rfl)) (HC.out) ?_
   refine hdv0 12 11 (.int .i64 (f : Int)) (by rfl) (HC.out) ?_
   refine wpAnyH_done (by kernel_rfl) ?_ _
   have c2 := HC2.out
   go_wp2_with (first | refine wl_at 64 rfl (.int .i64 (g : Int)) rfl (sub_ii (i := 3329) (j := f) Hg.out rfl rfl rfl) ?_ | refine wl_at 65 rfl (.int .i64 (m : Int)) rfl (min_ii Hm.out.1 rfl rfl rfl) ?_ | refine wl_at 74 rfl (.int .u64 (d : Int)) rfl (conv_uint HP2.out.2.2.2.1 rfl rfl) ?_ | refine wl_at 75 rfl (.int .i64 (P : Int)) rfl (shl_uint (c := 1) (d := d) HP2.out.2.2.2.2 HP2.out.2.2.1 HD2.out.2.2.2 rfl rfl rfl) ?_)
   go_roundw
   case rel => exact ⟨k + 1, by omega, by go_num, HIU⟩
   case measure => simp [intOf]; omega
  ·have hlt2 : ¬ (k : Int) < 256 := by omega
   go_wp2
   go_ret
   exact ⟨rfl, HI.out.2.2.2⟩
set_option maxHeartbeats 1000000 in
theorem near_bad (n : Int) (hn : n < 1 ∨ 11 < n) (p : Nat → Nat) (w : World) : Calls Try.prog 12 #[.int .i64 n, polyV p] w (TrueIs w) := by
 unfold TrueIs polyV
 generalize hN : w.heap.size = N at *
 have HLV : Shh (∀ W, Calls Try.prog 13 #[] W (TrueIs W)) := ⟨live13⟩
 obtain ⟨x, HX, HY⟩ : ∃ x : Nat → Nat, Shh (∀ W, Calls Try.prog 28 #[.int .i64 n, .agg (pc p).toArray] W (CodeIs W x 1)) ∧ Shh (∀ W, Calls Try.prog 30 #[.int .i64 n, .agg (pc x).toArray] W (CodeIs W x 1)) := ⟨fun _ => 0, ⟨fun W => Compress_bad n hn p W⟩, ⟨fun W => Decompress_bad n hn _ W⟩⟩
 have hb : (decide (n < 1) || decide (11 < n)) = true := by
  rcases hn with h | h
  ·simp [h]
  ·simp [h]
 obtain ⟨S0, hS0⟩ : ∃ S0, S0 = w.alloc (.cells (pc p).toArray 24) := ⟨_, rfl⟩
 have HW : Shh (Row S0 N 24 (pc p) ∧ Below N w S0) := by
  refine ⟨by rw [hS0]; exact Row.new_ hN.symm rfl, ?_⟩
  rw [hS0, ← hN]
  exact bel1 _ _
 rw [hS0] at HW
 clear hS0
 go_enter Try.func12, Try.ntmps12
 go_wp2_with (first | refine wpList_load_any rfl 24 (.tmp 3) rfl N rfl 24 (pc p) (.array 256 22) HW.out.1 Try.underlying24 rfl (info_poly.trans (size_poly p)) ?_ | (go_at_call 28; refine (HX.out _).mono ?_))
 rintro e w2 ⟨rfl, b2⟩
 have HI : Shh (Row w2 N 24 (pc p) ∧ Below N w w2) := ⟨HW.out.1.go b2, HW.out.2.trans (b2.mono (by have := HW.out.1.lt; omega))⟩
 clear b2 HW HX S0
 go_wp2_with (refine wl_newP 5 x rfl rfl rfl rfl rfl rfl rfl rfl ?_)
 intro G1 w3 hG1 r3 b3
 simp only [Act.put, arr9, hd9, tl9]
 have HJ : Shh (Row w3 N 24 (pc p) ∧ Row w3 G1 24 (pc x) ∧ Below N w w3) := ⟨HI.out.1.go b3, r3, HI.out.2.trans (b3.mono (Nat.le_of_lt HI.out.1.lt))⟩
 clear r3 b3 HI hG1
 go_wp2_with (first | refine wpList_load_any rfl 24 (.tmp 5) rfl G1 rfl 24 (pc x) (.array 256 22) HJ.out.2.1 Try.underlying24 rfl (info_poly.trans (size_poly x)) ?_ | (go_at_call 30; refine (HY.out _).mono ?_))
 rintro e w4 ⟨rfl, b2⟩
 have HI : Shh (Row w4 N 24 (pc p) ∧ Row w4 G1 24 (pc x) ∧ Below N w w4) := ⟨HJ.out.1.go b2, HJ.out.2.1.go b2, HJ.out.2.2.trans (b2.mono (Nat.le_of_lt HJ.out.1.lt))⟩
 clear b2 HJ HY
 go_wp2_with (refine wl_newP 7 x rfl rfl rfl rfl rfl rfl rfl rfl ?_)
 intro G2 w5 hG2 r3 b3
 simp only [Act.put, arr9, hd9, tl9]
 have HJ : Shh (Row w5 N 24 (pc p) ∧ Below N w w5) := ⟨HI.out.1.go b3, HI.out.2.2.trans (b3.mono (Nat.le_of_lt HI.out.1.lt))⟩
 clear r3 b3 HI hG2
 go_wp2_with (go_at_call 13; refine (HLV.out _).mono ?_)
 rintro e w6 ⟨rfl, b2⟩
 have HI : Shh (Row w6 N 24 (pc p) ∧ Below N w w6) := ⟨HJ.out.1.go b2, HJ.out.2.trans (b2.mono (Nat.le_of_lt HJ.out.1.lt))⟩
 clear b2 HJ
 go_wp2_with (go_at_call 13; refine (HLV.out _).mono ?_)
 rintro e w7 ⟨rfl, b2⟩
 have HJ : Shh (Below N w w7) := ⟨HI.out.2.trans (b2.mono (Nat.le_of_lt HI.out.1.lt))⟩
 clear b2 HI
 rcases hn with h | h
 ·go_wp2
  go_ret
  exact ⟨rfl, HJ.out⟩
 ·have h1 : ¬ n < 1 := by omega
  go_wp2
  go_ret
  exact ⟨rfl, HJ.out⟩
theorem ringNear_law (n : Int) (p : Nat → Nat) (hn : -9223372036854775808 ≤ n ∧ n ≤ 9223372036854775807) (hp : ∀ i, i < 256 → p i < 65536) (w : World) : Calls Try.prog 12 #[.int .i64 n, polyV p] w (TrueIs w) := by
 by_cases h : 1 ≤ n ∧ n ≤ 11
 ·obtain ⟨d, rfl⟩ := Int.eq_ofNat_of_zero_le (show 0 ≤ n by omega)
  exact near_good d (by omega) p hp w
 ·exact near_bad n (by omega) p w
end Go.Proofs.Ytfcgdjgfdbcddaa
