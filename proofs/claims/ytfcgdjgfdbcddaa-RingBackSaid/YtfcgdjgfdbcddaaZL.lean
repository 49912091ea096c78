import Derived.Test.YtfcgdjgfdbcddaaZH
import Derived.Test.YtfcgdjgfdbcddaaZC
import Derived.Test.YtfcgdjgfdbcddaaZF
import Derived.Test.YtfcgdjgfdbcddaaZJ
/-
 THE LAW RingNear.
-/
namespace Go.Proofs.Ytfcgdjgfdbcddaa
open Go.RowKit
set_option maxRecDepth 100000
section
variable {a : Act} {x y : Operand} {op : Oper} {w : World}
theorem conv_uint {n : Nat} (hn : n ≤ 1000) (ho : op.op = .convert 3 42 x) (hx : a.eval x = .int .i64 (n : Int)) : (execOp a.eval op).run Try.prog w = .ok (.value (.int .u64 (n : Int))) w := by
 have hw : IntKind.u64.wrap (n : Int) = (n : Int) := by rw [IntKind.wrap_u64]; omega
 have hm : (n : Int) % 18446744073709551616 = (n : Int) := by omega
 unfold execOp
 simp only [ho, hx]
 go_simp
theorem shl_uint {c d k : Nat} (h : k = c * 2 ^ d) (hd : d ≤ 31) (hk : k ≤ 1000000000000) (ho : op.op = .binOp .shl 3 x y 42) (hx : a.eval x = .int .i64 (c : Int)) (hy : a.eval y = .int .u64 (d : Int)) : (execOp a.eval op).run Try.prog w = .ok (.value (.int .i64 (k : Int))) w := by
 have h1 : ¬ (d : Int) < 0 := by omega
 have h2 : (d : Int).toNat = d := by omega
 have h3 : min d 64 = d := by omega
 have he : (c : Int) * 2 ^ d = (k : Int) := by rw [h, Int.natCast_mul, Int.natCast_pow]; rfl
 have hw : IntKind.i64.wrap (k : Int) = (k : Int) := by rw [IntKind.wrap_i64]; omega
 clear h
 unfold execOp
 simp only [ho, hx, hy]
 go_simp
theorem min_ii {i j m : Int} {T T' : TypeId} (hm : (if j < i then j else i) = m) (ho : op.op = .call { callee := .builtin .min, args := #[x, y], argTypes := #[T, T'] }) (hx : a.eval x = .int .i64 i) (hy : a.eval y = .int .i64 j) : (execOp a.eval op).run Try.prog w = .ok (.value (.int .i64 m)) w := by
 have hrun := run_min_int2 (P := Try.prog) (w := w) #[T, T'] op.type .i64 .i64 i j
 rw [hm] at hrun
 simp [execOp, ho, resolve, invoke, builtin, hx, hy, hrun, Result.andThen]
end
/-- what the chapter says of a number: it is near -/
theorem near_one (d x : Nat) (hd : 1 ≤ d ∧ d ≤ 11) (hx : x < 3329) : cmpN d x < 2 ^ d ∧ dcmN d (cmpN d x) < 3329 ∧ min ((dcmN d (cmpN d x) + 3329 - x) % 3329) (3329 - (dcmN d (cmpN d x) + 3329 - x) % 3329) ≤ (2 * 3329 + 2 ^ (d + 1)) / (2 * 2 ^ (d + 1)) := by
 obtain ⟨e, rfl⟩ : ∃ e, d = e + 1 := ⟨d - 1, by omega⟩
 have h := List.all_eq_true.1 (List.all_eq_true.1 near_all e (List.mem_range.2 (by omega))) x (List.mem_range.2 hx)
 simpa only [decide_eq_true_eq] using h
theorem dcm_cmp (d : Nat) (p : Nat → Nat) (i : Nat) : dcmP d (cmpP d p) i = dcmN d (cmpN d (p i % 3329)) := by
 unfold dcmP cmpP
 rw [Nat.mod_eq_of_lt (cmpN_lt _ _)]
set_option maxHeartbeats 2000000 in
theorem near_good (d : Nat) (hd : 1 ≤ d ∧ d ≤ 11) (p : Nat → Nat) (hp : ∀ i, i < 256 → p i < 65536) (w : World) : Calls Try.prog 12 #[.int .i64 (d : Int), polyV p] w (TrueIs w) := by
 unfold TrueIs polyV
 generalize hN : w.heap.size = N at *
 have HLV : Shh (∀ W, Calls Try.prog 13 #[] W (TrueIs W)) := ⟨live13⟩
 obtain ⟨x, y, HX, HY, HQ⟩ : ∃ x y : Nat → Nat, Shh (∀ W, Calls Try.prog 28 #[.int .i64 (d : Int), .agg (pc p).toArray] W (CodeIs W x 0)) ∧ Shh (∀ W, Calls Try.prog 30 #[.int .i64 (d : Int), .agg (pc x).toArray] W (CodeIs W y 0)) ∧ Shh (∀ i, i < 256 → p i < 65536 ∧ y i < 3329 ∧ x i < 2 ^ d ∧ min ((y i + 3329 - p i % 3329) % 3329) (3329 - (y i + 3329 - p i % 3329) % 3329) ≤ (2 * 1 * 3329 + 2 * 2 ^ d) / (2 * (2 * 2 ^ d))) := by
  have h11 : 2 ^ d ≤ 2048 := Nat.le_trans (Nat.pow_le_pow_right (by decide) hd.2) (by decide)
  refine ⟨cmpP d p, dcmP d (cmpP d p), ⟨fun W => Compress_any d hd p hp W⟩, ⟨fun W => Decompress_any d hd _ (fun i _ => by have := cmpN_lt d (p i % 3329); unfold cmpP; omega) W⟩, ⟨fun i hi => ?_⟩⟩
  rw [dcm_cmp]
  obtain ⟨h1, h2, h3⟩ := near_one d (p i % 3329) hd (Nat.mod_lt _ (by decide))
  refine ⟨hp i hi, h2, h1, ?_⟩
  rw [Nat.pow_succ, Nat.mul_comm (2 ^ d) 2] at h3
  exact h3
 obtain ⟨P, HP⟩ : ∃ P, Shh (P = 2 ^ d) := ⟨_, ⟨rfl⟩⟩
 have HP2 : Shh (P ≤ 2048 ∧ 0 < P ∧ d ≤ 31 ∧ d ≤ 1000 ∧ P = 1 * 2 ^ d) := ⟨by rw [HP.out]; exact Nat.le_trans (Nat.pow_le_pow_right (by decide) hd.2) (by decide), by rw [HP.out]; exact Nat.two_pow_pos d, by omega, by omega, by rw [HP.out, Nat.one_mul]⟩
 rw [← HP.out] at HQ
 obtain ⟨D, HD⟩ : ∃ D, Shh (D = 2 * 2 ^ d ∧ D = 2 * P) := ⟨_, ⟨rfl, by rw [HP.out]⟩⟩
 rw [← HD.out.2] at HQ
 have HD2 : Shh (D ≤ 1000000000000 ∧ 0 < D ∧ D ≤ 100000 ∧ P ≤ 1000000000000) := ⟨by have := HP2.out; have := HD.out.2; omega, by have := HP2.out; have := HD.out.2; omega, by have := HP2.out; have := HD.out.2; omega, by have := HP2.out; omega⟩
 obtain ⟨M, HM⟩ : ∃ M, Shh (M = (2 * 1 * 3329 + D) / (2 * D)) := ⟨_, ⟨rfl⟩⟩
 rw [← HM.out] at HQ
 have HNR : Shh (∀ W, Calls Try.prog 41 #[.int .i64 1, .int .i64 3329, .int .i64 (D : Int)] W (NumIs W M)) := ⟨fun W => by rw [HM.out]; exact Near_any 1 3329 D (by decide) (by decide) ⟨HD2.out.2.1, HD2.out.2.2.1⟩ W⟩
 clear hp hd HM HP
 obtain ⟨S0, hS0⟩ : ∃ S0, S0 = w.alloc (.cells (pc p).toArray 24) := ⟨_, rfl⟩
 have HW : Shh (Row S0 N 24 (pc p) ∧ Below N w S0) := by
  refine ⟨by rw [hS0]; exact Row.new_ hN.symm rfl, ?_⟩
  rw [hS0, ← hN]
  exact bel1 _ _
 rw [hS0] at HW
 clear hS0
 go_enter Try.func12, Try.ntmps12
 go_wp2_with (first | refine wpList_load_any rfl 24 (.tmp 3) rfl N rfl 24 (pc p) (.array 256 22) HW.out.1 Try.underlying24 rfl (info_poly.trans (size_poly p)) ?_ | (go_at_call 28; refine (HX.out _).mono ?_))
 rintro e w2 ⟨rfl, b2⟩
 have HI : Shh (Row w2 N 24 (pc p) ∧ Below N w w2) := ⟨HW.out.1.go b2, HW.out.2.trans (b2.mono (by have := HW.out.1.lt; omega))⟩
 clear b2 HW HX S0
 go_wp2_with (refine wl_newP 5 x rfl rfl rfl rfl rfl rfl rfl rfl ?_)
 intro G1 w3 hG1 r3 b3
 simp only [Act.put, arr9, hd9, tl9]
 have HJ : Shh (Row w3 N 24 (pc p) ∧ Row w3 G1 24 (pc x) ∧ Below N w w3) := ⟨HI.out.1.go b3, r3, HI.out.2.trans (b3.mono (Nat.le_of_lt HI.out.1.lt))⟩
 clear r3 b3 HI hG1
 go_wp2_with (first | refine wpList_load_any rfl 24 (.tmp 5) rfl G1 rfl 24 (pc x) (.array 256 22) HJ.out.2.1 Try.underlying24 rfl (info_poly.trans (size_poly x)) ?_ | (go_at_call 30; refine (HY.out _).mono ?_))
 rintro e w4 ⟨rfl, b2⟩
 have HI : Shh (Row w4 N 24 (pc p) ∧ Row w4 G1 24 (pc x) ∧ Below N w w4) := ⟨HJ.out.1.go b2, HJ.out.2.1.go b2, HJ.out.2.2.trans (b2.mono (Nat.le_of_lt HJ.out.1.lt))⟩
 clear b2 HJ HY
 go_wp2_with (refine wl_newP 7 y rfl rfl rfl rfl rfl rfl rfl rfl ?_)
 intro G2 w5 hG2 r3 b3
 simp only [Act.put, arr9, hd9, tl9]
 have HJ : Shh (Row w5 N 24 (pc p) ∧ Row w5 G1 24 (pc x) ∧ Row w5 G2 24 (pc y) ∧ Below N w w5) := ⟨HI.out.1.go b3, HI.out.2.1.go b3, r3, HI.out.2.2.trans (b3.mono (Nat.le_of_lt HI.out.1.lt))⟩
 clear r3 b3 HI hG2
 go_wp2_with (go_at_call 13; refine (HLV.out _).mono ?_)
 rintro e w6 ⟨rfl, b2⟩
 have HI : Shh (Row w6 N 24 (pc p) ∧ Row w6 G1 24 (pc x) ∧ Row w6 G2 24 (pc y) ∧ Below N w w6) := ⟨HJ.out.1.go b2, HJ.out.2.1.go b2, HJ.out.2.2.1.go b2, HJ.out.2.2.2.trans (b2.mono (Nat.le_of_lt HJ.out.1.lt))⟩
 clear b2 HJ HLV
 go_wp2_with (first | refine wl_at 44 rfl (.int .u64 (d : Int)) rfl (conv_uint HP2.out.2.2.2.1 rfl rfl) ?_ | refine wl_at 45 rfl (.int .i64 (D : Int)) rfl (shl_uint (c := 2) (d := d) HD.out.1 HP2.out.2.2.1 HD2.out.1 rfl rfl rfl) ?_ | (go_at_call 41; refine (HNR.out _).mono ?_))
 rintro e w7 ⟨rfl, rfl⟩
 go_wp2
 go_loopw [47] (fun i wr => ∃ k : Nat, k ≤ 256 ∧ i = .int .i64 (k : Int) ∧ Shh (Row wr N 24 (pc p) ∧ Row wr G1 24 (pc x) ∧ Row wr G2 24 (pc y) ∧ Below N w wr)) (fun i _ => 256 - (intOf i).toNat)
 case atStart => exact ⟨0, Nat.zero_le _, rfl, HI⟩
 case round =>
  clear HI
  obtain ⟨k, hk, rfl, HI⟩ := hrel
  by_cases hlt : k < 256
  ·have hlt2 : (k : Int) < 256 := by omega
   obtain ⟨h1, h2, h3, h4⟩ := HQ.out k hlt
   have c1 := HI.out.1.drew.cell k
   rw [pc_get _ hlt] at c1
   have c2 := HI.out.2.1.drew.cell k
   rw [pc_get _ hlt] at c2
   have c3 := HI.out.2.2.1.drew.cell k
   rw [pc_get _ hlt] at c3
   generalize p k = a1 at *
   generalize x k = x1 at *
   generalize y k = y1 at *
   obtain ⟨r, Hr⟩ : ∃ r, Shh (r = a1 % 3329) := ⟨_, ⟨rfl⟩⟩
   rw [← Hr.out] at h4
   obtain ⟨s, Hs⟩ : ∃ s, Shh (s = y1 + 3329 ∧ s ≤ 1000000000000) := ⟨_, ⟨rfl, by omega⟩⟩
   obtain ⟨t, Ht⟩ : ∃ t, Shh (s = t + r ∧ s ≤ 1000000000000) := ⟨s - r, ⟨by have := Hs.out; have := Hr.out; omega, Hs.out.2⟩⟩
   obtain ⟨f, Hf⟩ : ∃ f, Shh (f = t % 3329 ∧ t ≤ 1000000000000) := ⟨_, ⟨rfl, by have := Ht.out; have := Hs.out; omega⟩⟩
   obtain ⟨g, Hg⟩ : ∃ g, Shh (3329 = g + f ∧ 3329 ≤ 1000000000000) := ⟨3329 - f, ⟨by have := Hf.out; omega, by decide⟩⟩
   have HV : Shh (a1 < 65536 ∧ r < 65536 ∧ y1 < 65536 ∧ x1 < 65536 ∧ min f g ≤ M ∧ x1 < P) := ⟨by omega, by have := Hr.out; omega, by omega, by have := HP2.out; omega, by
    have e1 : t = y1 + 3329 - r := by have := Ht.out; have := Hs.out; omega
    rw [← e1, ← Hf.out.1] at h4
    have e2 : 3329 - f = g := by have := Hg.out; omega
    rw [e2] at h4
    exact h4, h3⟩
   obtain ⟨m, Hm⟩ : ∃ m : Nat, Shh ((if (g : Int) < (f : Int) then (g : Int) else (f : Int)) = (m : Int) ∧ m = min f g) := by
    refine ⟨min f g, ⟨?_, rfl⟩⟩
    split <;> omega
   have i1 : ¬ (M : Int) < (m : Int) := by have := HV.out; have := Hm.out.2; omega
   have i2 : ¬ wrap64 (2 ^ min (IntKind.u64.wrap (d : Int)).toNat 64) ≤ wrap64 (x1 : Int) := by
    have h5 := HV.out
    have h6 := HP2.out
    have e1 : (IntKind.u64.wrap (d : Int)).toNat = d := by rw [IntKind.wrap_u64]; omega
    have e2 : ((2 : Int) ^ d) = (P : Int) := by rw [h6.2.2.2.2, Nat.one_mul, Int.natCast_pow]; rfl
    rw [e1, show min d 64 = d by omega, e2]
    unfold wrap64
    omega
   have HC := Shh.mk (And.intro c1 c3)
   have HC2 := Shh.mk c2
   clear h1 h2 h3 h4 c1 c2 c3
   go_wp2
   refine wp_region_held_drew (S := fun w' => w'.cell? ⟨N, k, none⟩ = some (.int .u16 (a1 : Int)) ∧ w'.cell? ⟨G2, k, none⟩ = some (.int .u16 (y1 : Int))) (by kernel_rfl) HC.out (fun hS => ?_)
   clear hS
   obtain ⟨U, hU⟩ : ∃ V, V = World.drew wr := ⟨_, rfl⟩
   rw [← hU] at HC HC2 ⊢
   have HIU : Shh (Row U N 24 (pc p) ∧ Row U G1 24 (pc x) ∧ Row U G2 24 (pc y) ∧ Below N w U) := by rw [hU]; exact ⟨HI.out.1.drew, HI.out.2.1.drew, HI.out.2.2.1.drew, HI.out.2.2.2.drew⟩
   clear HI hU
   refine hdv0 0 50 (.int .i64 (k : Int)) (by rfl) (HC.out) ?_
   refine hdv 1 51 (.pointer (some ⟨G2, k, none⟩)) (by rfl) (fun w hS => at_poly hlt rfl (by kernel_rfl) (by kernel_rfl)) (HC.out) ?_
   refine hdv 2 52 (.int .u16 (y1 : Int)) (by rfl) (fun w hS => load_u16 rfl hS.2 (by kernel_rfl)) (HC.out) ?_
   refine hdv 3 53 (.int .i64 (y1 : Int)) (by rfl) (fun w hS => conv_ui16 HV.out.2.2.1 rfl (by kernel_rfl)) (HC.out) ?_
   refine hdv 4 54 (.int .i64 (s : Int)) (by rfl) (fun w hS => add_ii (i := y1) (j := 3329) Hs.out rfl (by kernel_rfl) (by kernel_rfl)) (HC.out) ?_
   refine hdv0 5 55 (.int .i64 (k : Int)) (by rfl) (HC.out) ?_
   refine hdv 6 56 (.pointer (some ⟨N, k, none⟩)) (by rfl) (fun w hS => at_poly hlt rfl (by kernel_rfl) (by kernel_rfl)) (HC.out) ?_
   refine hdv 7 57 (.int .u16 (a1 : Int)) (by rfl) (fun w hS => load_u16 rfl hS.1 (by kernel_rfl)) (HC.out) ?_
   refine hdv 8 58 (.int .u16 (r : Int)) (by rfl) (fun w hS => rem_u16 Hr.out HV.out.1 rfl (by kernel_rfl)) (HC.out) ?_
   refine hdv 9 59 (.int .i64 (r : Int)) (by rfl) (fun w hS => conv_ui16 HV.out.2.1 rfl (by kernel_rfl)) (HC.out) ?_
   refine hdv 10 60 (.int .i64 (t : Int)) (by rfl) (fun w hS => sub_ii (i := s) (j := r) Ht.out rfl (by kernel_rfl) (by kernel_rfl)) (HC.out) ?_
   refine hdv 11 61 (.int .i64 (f : Int)) (by rfl) (fun w hS => rem_iq (n := t) Hf.out.1 Hf.out.2 rfl (by kernel_rfl)) (HC.out) ?_
   refine hdv0 12 11 (.int .i64 (f : Int)) (by rfl) (HC.out) ?_
   refine wpAnyH_done (by kernel_rfl) ?_ _
   have c2 := HC2.out
   go_wp2_with (first | refine wl_at 64 rfl (.int .i64 (g : Int)) rfl (sub_ii (i := 3329) (j := f) Hg.out rfl rfl rfl) ?_ | refine wl_at 65 rfl (.int .i64 (m : Int)) rfl (min_ii Hm.out.1 rfl rfl rfl) ?_ | refine wl_at 74 rfl (.int .u64 (d : Int)) rfl (conv_uint HP2.out.2.2.2.1 rfl rfl) ?_ | refine wl_at 75 rfl (.int .i64 (P : Int)) rfl (shl_uint (c := 1) (d := d) HP2.out.2.2.2.2 HP2.out.2.2.1 HD2.out.2.2.2 rfl rfl rfl) ?_)
   go_roundw
   case rel => exact ⟨k + 1, by omega, by go_num, HIU⟩
   case measure => simp [intOf]; omega
  ·have hlt2 : ¬ (k : Int) < 256 := by omega
   go_wp2
   go_ret
   exact ⟨rfl, HI.out.2.2.2⟩
set_option maxHeartbeats 1000000 in
theorem near_bad (n : Int) (hn : n < 1 ∨ 11 < n) (p : Nat → Nat) (w : World) : Calls Try.prog 12 #[.int .i64 n, polyV p] w (TrueIs w) := by
 unfold TrueIs polyV
 generalize hN : w.heap.size = N at *
 have HLV : Shh (∀ W, Calls Try.prog 13 #[] W (TrueIs W)) := ⟨live13⟩
 obtain ⟨x, HX, HY⟩ : ∃ x : Nat → Nat, Shh (∀ W, Calls Try.prog 28 #[.int .i64 n, .agg (pc p).toArray] W (CodeIs W x 1)) ∧ Shh (∀ W, Calls Try.prog 30 #[.int .i64 n, .agg (pc x).toArray] W (CodeIs W x 1)) := ⟨fun _ => 0, ⟨fun W => Compress_bad n hn p W⟩, ⟨fun W => Decompress_bad n hn _ W⟩⟩
 have hb : (decide (n < 1) || decide (11 < n)) = true := by
  rcases hn with h | h
  ·simp [h]
  ·simp [h]
 obtain ⟨S0, hS0⟩ : ∃ S0, S0 = w.alloc (.cells (pc p).toArray 24) := ⟨_, rfl⟩
 have HW : Shh (Row S0 N 24 (pc p) ∧ Below N w S0) := by
  refine ⟨by rw [hS0]; exact Row.new_ hN.symm rfl, ?_⟩
  rw [hS0, ← hN]
  exact bel1 _ _
 rw [hS0] at HW
 clear hS0
 go_enter Try.func12, Try.ntmps12
 go_wp2_with (first | refine wpList_load_any rfl 24 (.tmp 3) rfl N rfl 24 (pc p) (.array 256 22) HW.out.1 Try.underlying24 rfl (info_poly.trans (size_poly p)) ?_ | (go_at_call 28; refine (HX.out _).mono ?_))
 rintro e w2 ⟨rfl, b2⟩
 have HI : Shh (Row w2 N 24 (pc p) ∧ Below N w w2) := ⟨HW.out.1.go b2, HW.out.2.trans (b2.mono (by have := HW.out.1.lt; omega))⟩
 clear b2 HW HX S0
 go_wp2_with (refine wl_newP 5 x rfl rfl rfl rfl rfl rfl rfl rfl ?_)
 intro G1 w3 hG1 r3 b3
 simp only [Act.put, arr9, hd9, tl9]
 have HJ : Shh (Row w3 N 24 (pc p) ∧ Row w3 G1 24 (pc x) ∧ Below N w w3) := ⟨HI.out.1.go b3, r3, HI.out.2.trans (b3.mono (Nat.le_of_lt HI.out.1.lt))⟩
 clear r3 b3 HI hG1
 go_wp2_with (first | refine wpList_load_any rfl 24 (.tmp 5) rfl G1 rfl 24 (pc x) (.array 256 22) HJ.out.2.1 Try.underlying24 rfl (info_poly.trans (size_poly x)) ?_ | (go_at_call 30; refine (HY.out _).mono ?_))
 rintro e w4 ⟨rfl, b2⟩
 have HI : Shh (Row w4 N 24 (pc p) ∧ Row w4 G1 24 (pc x) ∧ Below N w w4) := ⟨HJ.out.1.go b2, HJ.out.2.1.go b2, HJ.out.2.2.trans (b2.mono (Nat.le_of_lt HJ.out.1.lt))⟩
 clear b2 HJ HY
 go_wp2_with (refine wl_newP 7 x rfl rfl rfl rfl rfl rfl rfl rfl ?_)
 intro G2 w5 hG2 r3 b3
 simp only [Act.put, arr9, hd9, tl9]
 have HJ : Shh (Row w5 N 24 (pc p) ∧ Below N w w5) := ⟨HI.out.1.go b3, HI.out.2.2.trans (b3.mono (Nat.le_of_lt HI.out.1.lt))⟩
 clear r3 b3 HI hG2
 go_wp2_with (go_at_call 13; refine (HLV.out _).mono ?_)
 rintro e w6 ⟨rfl, b2⟩
 have HI : Shh (Row w6 N 24 (pc p) ∧ Below N w w6) := ⟨HJ.out.1.go b2, HJ.out.2.trans (b2.mono (Nat.le_of_lt HJ.out.1.lt))⟩
 clear b2 HJ
 go_wp2_with (go_at_call 13; refine (HLV.out _).mono ?_)
 rintro e w7 ⟨rfl, b2⟩
 have HJ : Shh (Below N w w7) := ⟨HI.out.2.trans (b2.mono (Nat.le_of_lt HI.out.1.lt))⟩
 clear b2 HI
 rcases hn with h | h
 ·go_wp2
  go_ret
  exact ⟨rfl, HJ.out⟩
 ·have h1 : ¬ n < 1 := by omega
  go_wp2
  go_ret
  exact ⟨rfl, HJ.out⟩
theorem ringNear_law (n : Int) (p : Nat → Nat) (hn : -9223372036854775808 ≤ n ∧ n ≤ 9223372036854775807) (hp : ∀ i, i < 256 → p i < 65536) (w : World) : Calls Try.prog 12 #[.int .i64 n, polyV p] w (TrueIs w) := by
 by_cases h : 1 ≤ n ∧ n ≤ 11
 ·obtain ⟨d, rfl⟩ := Int.eq_ofNat_of_zero_le (show 0 ≤ n by omega)
  exact near_good d (by omega) p hp w
 ·exact near_bad n (by omega) p w
end Go.Proofs.Ytfcgdjgfdbcddaa

/-
 THE LAW RingTurns.
-/
namespace Go.Proofs.Ytfcgdjgfdbcddaa
open Go.RowKit
set_option maxRecDepth 100000
set_option maxHeartbeats 2000000 in
theorem ringTurns_law (p p2 : Nat → Nat) (hp : ∀ i, i < 256 → p i < 65536) (hp2 : ∀ i, i < 256 → p2 i < 65536) (w : World) : Calls Try.prog 10 #[polyV p, polyV p2] w (TrueIs w) := by
 unfold TrueIs
 have HLV : Shh (∀ W, Calls Try.prog 13 #[] W (TrueIs W)) := ⟨live13⟩
 have bN : ∀ q : Nat → Nat, ∀ i, i < 256 → nttN q i < 65536 := fun q i _ => rd_16 _
 have bM : ∀ q r : Nat → Nat, ∀ i, i < 256 → mulN q r i < 65536 := fun q r i _ => rd_16 _
 have bA : ∀ q r : Nat → Nat, ∀ i, i < 256 → addN q r i < 65536 := fun q r i _ => rd_16 _
 have bP : ∀ q r : Nat → Nat, ∀ i, i < 256 → pairN q r i < 65536 := fun q r i _ => rd_16 _
 obtain ⟨x, Hx⟩ : ∃ r, Shh (r = nttN p) := ⟨_, ⟨rfl⟩⟩
 obtain ⟨y, Hy⟩ : ∃ r, Shh (r = nttN p2) := ⟨_, ⟨rfl⟩⟩
 obtain ⟨m, Hm⟩ : ∃ r, Shh (r = mulN p p2) := ⟨_, ⟨rfl⟩⟩
 obtain ⟨s, Hs⟩ : ∃ r, Shh (r = addN p p2) := ⟨_, ⟨rfl⟩⟩
 obtain ⟨q, Hq⟩ : ∃ r, Shh (r = pairN x y) := ⟨_, ⟨rfl⟩⟩
 obtain ⟨t, Ht⟩ : ∃ r, Shh (r = addN x y) := ⟨_, ⟨rfl⟩⟩
 have HX : Shh (∀ W, Calls Try.prog 22 #[.agg (pc p).toArray] W (PolyIs W x)) := ⟨fun W => by rw [Hx.out]; exact Ntt_any p hp W⟩
 have HY : Shh (∀ W, Calls Try.prog 22 #[.agg (pc p2).toArray] W (PolyIs W y)) := ⟨fun W => by rw [Hy.out]; exact Ntt_any p2 hp2 W⟩
 have HM : Shh (∀ W, Calls Try.prog 20 #[.agg (pc p).toArray, .agg (pc p2).toArray] W (PolyIs W m)) := ⟨fun W => by rw [Hm.out]; exact Mul_any p p2 hp hp2 W⟩
 have HMN : Shh (∀ W, Calls Try.prog 22 #[.agg (pc m).toArray] W (PolyIs W q)) := ⟨fun W => by unfold PolyIs polyV; rw [show pc q = pc (nttN m) from pc_of fun i hi => by rw [Hq.out, Hx.out, Hy.out, Hm.out]; exact (ntt_mulN p p2 i hi).symm, Hm.out]; exact Ntt_any _ (bM _ _) W⟩
 have HQ : Shh (∀ W, Calls Try.prog 26 #[.agg (pc x).toArray, .agg (pc y).toArray] W (PolyIs W q)) := ⟨fun W => by rw [Hq.out, Hx.out, Hy.out]; exact MulNtt_any _ _ (bN _) (bN _) W⟩
 have HS : Shh (∀ W, Calls Try.prog 16 #[.agg (pc p).toArray, .agg (pc p2).toArray] W (PolyIs W s)) := ⟨fun W => by rw [Hs.out]; exact Add_any p p2 hp hp2 W⟩
 have HSN : Shh (∀ W, Calls Try.prog 22 #[.agg (pc s).toArray] W (PolyIs W t)) := ⟨fun W => by unfold PolyIs polyV; rw [show pc t = pc (nttN s) from pc_of fun i _ => by rw [Ht.out, Hx.out, Hy.out, Hs.out]; exact (ntt_addN p p2 i).symm, Hs.out]; exact Ntt_any _ (bA _ _) W⟩
 have HT2 : Shh (∀ W, Calls Try.prog 16 #[.agg (pc x).toArray, .agg (pc y).toArray] W (PolyIs W t)) := ⟨fun W => by rw [Ht.out, Hx.out, Hy.out]; exact Add_any _ _ (bN _) (bN _) W⟩
 have HQI : Shh (∀ W, Calls Try.prog 24 #[.agg (pc q).toArray] W (PolyIs W m)) := ⟨fun W => by unfold PolyIs polyV; rw [show pc m = pc (invN q) from pc_of fun i hi => by rw [Hq.out, Hx.out, Hy.out, Hm.out]; exact mul_inv p p2 i hi, Hq.out]; exact Inv_any _ (bP _ _) W⟩
 have Eq : Shh (∀ W, (Op.equalIn 10000 24 (.agg (pc q).toArray) (.agg (pc q).toArray)).run Try.prog W = .ok true W) := ⟨fun W => eq_poly _ (by rw [Hq.out]; exact fun i hi => rd_16 _) W⟩
 have Et : Shh (∀ W, (Op.equalIn 10000 24 (.agg (pc t).toArray) (.agg (pc t).toArray)).run Try.prog W = .ok true W) := ⟨fun W => eq_poly _ (by rw [Ht.out]; exact fun i hi => rd_16 _) W⟩
 have Em : Shh (∀ W, (Op.equalIn 10000 24 (.agg (pc m).toArray) (.agg (pc m).toArray)).run Try.prog W = .ok true W) := ⟨fun W => eq_poly _ (by rw [Hm.out]; exact fun i hi => rd_16 _) W⟩
 clear bN bM bA bP Hx Hy Hm Hs Hq Ht
 unfold polyV
 generalize hN : w.heap.size = N at *
 clear hp hp2
 obtain ⟨W, hW⟩ : ∃ W, W = (w.alloc (.cells (pc p).toArray 24)).alloc (.cells (pc p2).toArray 24) := ⟨_, rfl⟩
 have HW : Shh (Row W N 24 (pc p) ∧ Row W (N + 1) 24 (pc p2) ∧ Below N w W) := by
  refine ⟨by rw [hW]; exact (Row.new_ hN.symm rfl).alloc _, by rw [hW]; exact Row.new_ (by rw [asz, hN]) rfl, ?_⟩
  rw [hW, ← hN]
  exact Below.chain (bel1 _ _) (bel1 _ _)
 go_enter Try.func10, Try.ntmps10
 go_wp2
 try simp only [asz, hN]
 rw [← hW]
 clear hW
 refine wp_region_held_drew (S := fun w' => Row w' N 24 (pc p) ∧ Row w' (N + 1) 24 (pc p2)) (by kernel_rfl) ⟨HW.out.1.drew, HW.out.2.1.drew⟩ (fun hS => ?_)
 clear hS
 obtain ⟨V, hV⟩ : ∃ V, V = World.drew W := ⟨_, rfl⟩
 rw [← hV]
 have q0 : Row V N 24 (pc p) := by rw [hV]; exact HW.out.1.drew
 have q1 : Row V (N + 1) 24 (pc p2) := by rw [hV]; exact HW.out.2.1.drew
 have bN : Below N w V := by rw [hV]; exact HW.out.2.2.drew
 have hNV : N + 2 ≤ V.heap.size := by have := q1.lt; omega
 clear HW hV
 refine share (T := ?T0) (fun hT => ?gg0) ?tt0
 case gg0 =>
  refine held_load 0 24 (.tmp 2) (some 7) (by kernel_rfl) (by rfl) (by kernel_rfl) N 0 (by kernel_rfl) (pc p) _ (fun w h => h.1.range) Try.underlying24 rfl (info_poly.trans (size_poly _)) (fun _ _ _ _ h => h) (⟨q0, q1⟩) ?_
  simp only [Act.put, arr9, hd9, tl9]
  refine held_load 2 24 (.tmp 3) (some 9) (by kernel_rfl) (by rfl) (by kernel_rfl) (N + 1) 0 (by kernel_rfl) (pc p2) _ (fun w h => h.2.range) Try.underlying24 rfl (info_poly.trans (size_poly _)) (fun _ _ _ _ h => h) (⟨q0, q1⟩) ?_
  simp only [Act.put, arr9, hd9, tl9]
  refine held_three 1 4 5 (by kernel_rfl) ?_ ?_ ?_
  ·refine step_call 1 _ _ (some 8) 22 #[.agg (pc p).toArray] (by rfl) (by kernel_rfl) (by first | kernel_rfl | go_simp) ?_
   refine (HX.out V).mono ?_
   rintro e Y1 ⟨rfl, b1⟩
   have bx : Below V.heap.size V Y1 := b1
   clear b1
   have b_V := bx
   have m_Y1 : V.heap.size ≤ Y1.heap.size := bx.size
   clear bx
   refine ⟨_, rfl, ⟨(q0.go b_V), (q1.go b_V)⟩, ?_⟩
   simp only [Act.put, arr9, hd9, tl9]
   refine held_three 3 4 5 (by kernel_rfl) ?_ ?_ ?_
   ·refine step_call 3 _ _ (some 10) 22 #[.agg (pc p2).toArray] (by rfl) (by kernel_rfl) (by first | kernel_rfl | go_simp) ?_
    refine (HY.out Y1).mono ?_
    rintro e Y2 ⟨rfl, b1⟩
    have bx : Below Y1.heap.size Y1 Y2 := b1
    clear b1
    replace b_V := Below.chain b_V bx
    have b_Y1 := bx
    have m_Y2 : Y1.heap.size ≤ Y2.heap.size := bx.size
    clear bx
    refine ⟨_, rfl, ⟨(q0.go b_V), (q1.go b_V)⟩, ?_⟩
    simp only [Act.put, arr9, hd9, tl9]
    refine held_two 4 5 (by kernel_rfl) ?_ ?_
    ·refine step_value 4 _ _ (some 5) (.pointer (some ⟨Y2.heap.size, 0, none⟩)) (Y2.alloc (.cells (pc fun _ => 0).toArray 24)) (by rfl) (by kernel_rfl) (run_allocP rfl) (⟨((q0.go b_V)).alloc _, ((q1.go b_V)).alloc _⟩) ?_
     simp only [Act.put, arr9, hd9, tl9]
     have bx : Below Y2.heap.size Y2 (Y2.alloc (.cells (pc fun _ => 0).toArray 24)) := Below.alloc (Below.refl _ _) (Nat.le_refl _) _
     have rA : Row (Y2.alloc (.cells (pc fun _ => 0).toArray 24)) Y2.heap.size 24 (pc fun _ => 0) := Row.new_ rfl rfl
     have z_rA := asz Y2 (.cells (pc fun _ => 0).toArray 24)
     generalize Y2.alloc (.cells (pc fun _ => 0).toArray 24) = Y3 at *
     replace b_V := Below.chain b_V bx
     replace b_Y1 := Below.chain b_Y1 bx
     have b_Y2 := bx
     have m_Y3 : Y2.heap.size ≤ Y3.heap.size := bx.size
     clear bx
     refine held_one 5 (by kernel_rfl) ?_
     refine step_value 5 _ _ (some 6) (.pointer (some ⟨Y3.heap.size, 0, none⟩)) (Y3.alloc (.cells (pc fun _ => 0).toArray 24)) (by rfl) (by kernel_rfl) (run_allocP rfl) (⟨((q0.go b_V)).alloc _, ((q1.go b_V)).alloc _⟩) ?_
     simp only [Act.put, arr9, hd9, tl9]
     have bx : Below Y3.heap.size Y3 (Y3.alloc (.cells (pc fun _ => 0).toArray 24)) := Below.alloc (Below.refl _ _) (Nat.le_refl _) _
     have rB : Row (Y3.alloc (.cells (pc fun _ => 0).toArray 24)) Y3.heap.size 24 (pc fun _ => 0) := Row.new_ rfl rfl
     have z_rB := asz Y3 (.cells (pc fun _ => 0).toArray 24)
     generalize Y3.alloc (.cells (pc fun _ => 0).toArray 24) = Y4 at *
     replace b_V := Below.chain b_V bx
     replace b_Y1 := Below.chain b_Y1 bx
     replace b_Y2 := Below.chain b_Y2 bx
     have b_Y3 := bx
     have m_Y4 : Y3.heap.size ≤ Y4.heap.size := bx.size
     clear bx
     have hne : N + 2 ≤ Y2.heap.size ∧ N + 2 ≤ Y3.heap.size ∧ ¬ Y2.heap.size = Y3.heap.size := by refine ⟨?_, ?_, ?_⟩ <;> omega
     have HZ : Shh (Row Y4 N 24 (pc p) ∧ Row Y4 (N + 1) 24 (pc p2) ∧ Row Y4 Y2.heap.size 24 (pc fun _ => 0) ∧ Row Y4 Y3.heap.size 24 (pc fun _ => 0) ∧ Below N w Y4 ∧ N + 2 ≤ Y2.heap.size ∧ N + 2 ≤ Y3.heap.size ∧ ¬ Y2.heap.size = Y3.heap.size) := ⟨(q0.go b_V), (q1.go b_V), (rA.go b_Y3), rB, bN.trans (b_V.mono (by omega)), hne⟩
     clear hne
     generalize Y2.heap.size = gA at HZ ⊢
     generalize Y3.heap.size = gB at HZ ⊢
     clear m_Y4 b_Y3 z_rB rB m_Y3 b_Y2 z_rA rA m_Y2 b_Y1 m_Y1 b_V
     revert HZ
     revert Y4 gA gB
     exact hT.out
    ·refine step_value 5 _ _ (some 6) (.pointer (some ⟨Y2.heap.size, 0, none⟩)) (Y2.alloc (.cells (pc fun _ => 0).toArray 24)) (by rfl) (by kernel_rfl) (run_allocP rfl) (⟨((q0.go b_V)).alloc _, ((q1.go b_V)).alloc _⟩) ?_
     simp only [Act.put, arr9, hd9, tl9]
     have bx : Below Y2.heap.size Y2 (Y2.alloc (.cells (pc fun _ => 0).toArray 24)) := Below.alloc (Below.refl _ _) (Nat.le_refl _) _
     have rB : Row (Y2.alloc (.cells (pc fun _ => 0).toArray 24)) Y2.heap.size 24 (pc fun _ => 0) := Row.new_ rfl rfl
     have z_rB := asz Y2 (.cells (pc fun _ => 0).toArray 24)
     generalize Y2.alloc (.cells (pc fun _ => 0).toArray 24) = Y3 at *
     replace b_V := Below.chain b_V bx
     replace b_Y1 := Below.chain b_Y1 bx
     have b_Y2 := bx
     have m_Y3 : Y2.heap.size ≤ Y3.heap.size := bx.size
     clear bx
     refine held_one 4 (by kernel_rfl) ?_
     refine step_value 4 _ _ (some 5) (.pointer (some ⟨Y3.heap.size, 0, none⟩)) (Y3.alloc (.cells (pc fun _ => 0).toArray 24)) (by rfl) (by kernel_rfl) (run_allocP rfl) (⟨((q0.go b_V)).alloc _, ((q1.go b_V)).alloc _⟩) ?_
     simp only [Act.put, arr9, hd9, tl9]
     have bx : Below Y3.heap.size Y3 (Y3.alloc (.cells (pc fun _ => 0).toArray 24)) := Below.alloc (Below.refl _ _) (Nat.le_refl _) _
     have rA : Row (Y3.alloc (.cells (pc fun _ => 0).toArray 24)) Y3.heap.size 24 (pc fun _ => 0) := Row.new_ rfl rfl
     have z_rA := asz Y3 (.cells (pc fun _ => 0).toArray 24)
     generalize Y3.alloc (.cells (pc fun _ => 0).toArray 24) = Y4 at *
     replace b_V := Below.chain b_V bx
     replace b_Y1 := Below.chain b_Y1 bx
     replace b_Y2 := Below.chain b_Y2 bx
     have b_Y3 := bx
     have m_Y4 : Y3.heap.size ≤ Y4.heap.size := bx.size
     clear bx
     have hne : N + 2 ≤ Y3.heap.size ∧ N + 2 ≤ Y2.heap.size ∧ ¬ Y3.heap.size = Y2.heap.size := by refine ⟨?_, ?_, ?_⟩ <;> omega
     have HZ : Shh (Row Y4 N 24 (pc p) ∧ Row Y4 (N + 1) 24 (pc p2) ∧ Row Y4 Y3.heap.size 24 (pc fun _ => 0) ∧ Row Y4 Y2.heap.size 24 (pc fun _ => 0) ∧ Below N w Y4 ∧ N + 2 ≤ Y3.heap.size ∧ N + 2 ≤ Y2.heap.size ∧ ¬ Y3.heap.size = Y2.heap.size) := ⟨(q0.go b_V), (q1.go b_V), rA, (rB.go b_Y3), bN.trans (b_V.mono (by omega)), hne⟩
     clear hne
     generalize Y3.heap.size = gA at HZ ⊢
     generalize Y2.heap.size = gB at HZ ⊢
     clear m_Y4 b_Y3 z_rA rA m_Y3 b_Y2 z_rB rB m_Y2 b_Y1 m_Y1 b_V
     revert HZ
     revert Y4 gA gB
     exact hT.out
   ·refine step_value 4 _ _ (some 5) (.pointer (some ⟨Y1.heap.size, 0, none⟩)) (Y1.alloc (.cells (pc fun _ => 0).toArray 24)) (by rfl) (by kernel_rfl) (run_allocP rfl) (⟨((q0.go b_V)).alloc _, ((q1.go b_V)).alloc _⟩) ?_
    simp only [Act.put, arr9, hd9, tl9]
    have bx : Below Y1.heap.size Y1 (Y1.alloc (.cells (pc fun _ => 0).toArray 24)) := Below.alloc (Below.refl _ _) (Nat.le_refl _) _
    have rA : Row (Y1.alloc (.cells (pc fun _ => 0).toArray 24)) Y1.heap.size 24 (pc fun _ => 0) := Row.new_ rfl rfl
    have z_rA := asz Y1 (.cells (pc fun _ => 0).toArray 24)
    generalize Y1.alloc (.cells (pc fun _ => 0).toArray 24) = Y2 at *
    replace b_V := Below.chain b_V bx
    have b_Y1 := bx
    have m_Y2 : Y1.heap.size ≤ Y2.heap.size := bx.size
    clear bx
    refine held_two 3 5 (by kernel_rfl) ?_ ?_
    ·refine step_call 3 _ _ (some 10) 22 #[.agg (pc p2).toArray] (by rfl) (by kernel_rfl) (by first | kernel_rfl | go_simp) ?_
     refine (HY.out Y2).mono ?_
     rintro e Y3 ⟨rfl, b1⟩
     have bx : Below Y2.heap.size Y2 Y3 := b1
     clear b1
     replace b_V := Below.chain b_V bx
     replace b_Y1 := Below.chain b_Y1 bx
     have b_Y2 := bx
     have m_Y3 : Y2.heap.size ≤ Y3.heap.size := bx.size
     clear bx
     refine ⟨_, rfl, ⟨(q0.go b_V), (q1.go b_V)⟩, ?_⟩
     simp only [Act.put, arr9, hd9, tl9]
     refine held_one 5 (by kernel_rfl) ?_
     refine step_value 5 _ _ (some 6) (.pointer (some ⟨Y3.heap.size, 0, none⟩)) (Y3.alloc (.cells (pc fun _ => 0).toArray 24)) (by rfl) (by kernel_rfl) (run_allocP rfl) (⟨((q0.go b_V)).alloc _, ((q1.go b_V)).alloc _⟩) ?_
     simp only [Act.put, arr9, hd9, tl9]
     have bx : Below Y3.heap.size Y3 (Y3.alloc (.cells (pc fun _ => 0).toArray 24)) := Below.alloc (Below.refl _ _) (Nat.le_refl _) _
     have rB : Row (Y3.alloc (.cells (pc fun _ => 0).toArray 24)) Y3.heap.size 24 (pc fun _ => 0) := Row.new_ rfl rfl
     have z_rB := asz Y3 (.cells (pc fun _ => 0).toArray 24)
     generalize Y3.alloc (.cells (pc fun _ => 0).toArray 24) = Y4 at *
     replace b_V := Below.chain b_V bx
     replace b_Y1 := Below.chain b_Y1 bx
     replace b_Y2 := Below.chain b_Y2 bx
     have b_Y3 := bx
     have m_Y4 : Y3.heap.size ≤ Y4.heap.size := bx.size
     clear bx
     have hne : N + 2 ≤ Y1.heap.size ∧ N + 2 ≤ Y3.heap.size ∧ ¬ Y1.heap.size = Y3.heap.size := by refine ⟨?_, ?_, ?_⟩ <;> omega
     have HZ : Shh (Row Y4 N 24 (pc p) ∧ Row Y4 (N + 1) 24 (pc p2) ∧ Row Y4 Y1.heap.size 24 (pc fun _ => 0) ∧ Row Y4 Y3.heap.size 24 (pc fun _ => 0) ∧ Below N w Y4 ∧ N + 2 ≤ Y1.heap.size ∧ N + 2 ≤ Y3.heap.size ∧ ¬ Y1.heap.size = Y3.heap.size) := ⟨(q0.go b_V), (q1.go b_V), (rA.go b_Y2), rB, bN.trans (b_V.mono (by omega)), hne⟩
     clear hne
     generalize Y1.heap.size = gA at HZ ⊢
     generalize Y3.heap.size = gB at HZ ⊢
     clear m_Y4 b_Y3 z_rB rB m_Y3 b_Y2 m_Y2 b_Y1 z_rA rA m_Y1 b_V
     revert HZ
     revert Y4 gA gB
     exact hT.out
    ·refine step_value 5 _ _ (some 6) (.pointer (some ⟨Y2.heap.size, 0, none⟩)) (Y2.alloc (.cells (pc fun _ => 0).toArray 24)) (by rfl) (by kernel_rfl) (run_allocP rfl) (⟨((q0.go b_V)).alloc _, ((q1.go b_V)).alloc _⟩) ?_
     simp only [Act.put, arr9, hd9, tl9]
     have bx : Below Y2.heap.size Y2 (Y2.alloc (.cells (pc fun _ => 0).toArray 24)) := Below.alloc (Below.refl _ _) (Nat.le_refl _) _
     have rB : Row (Y2.alloc (.cells (pc fun _ => 0).toArray 24)) Y2.heap.size 24 (pc fun _ => 0) := Row.new_ rfl rfl
     have z_rB := asz Y2 (.cells (pc fun _ => 0).toArray 24)
     generalize Y2.alloc (.cells (pc fun _ => 0).toArray 24) = Y3 at *
     replace b_V := Below.chain b_V bx
     replace b_Y1 := Below.chain b_Y1 bx
     have b_Y2 := bx
     have m_Y3 : Y2.heap.size ≤ Y3.heap.size := bx.size
     clear bx
     refine held_one 3 (by kernel_rfl) ?_
     refine step_call 3 _ _ (some 10) 22 #[.agg (pc p2).toArray] (by rfl) (by kernel_rfl) (by first | kernel_rfl | go_simp) ?_
     refine (HY.out Y3).mono ?_
     rintro e Y4 ⟨rfl, b1⟩
     have bx : Below Y3.heap.size Y3 Y4 := b1
     clear b1
     replace b_V := Below.chain b_V bx
     replace b_Y1 := Below.chain b_Y1 bx
     replace b_Y2 := Below.chain b_Y2 bx
     have b_Y3 := bx
     have m_Y4 : Y3.heap.size ≤ Y4.heap.size := bx.size
     clear bx
     refine ⟨_, rfl, ⟨(q0.go b_V), (q1.go b_V)⟩, ?_⟩
     simp only [Act.put, arr9, hd9, tl9]
     have hne : N + 2 ≤ Y1.heap.size ∧ N + 2 ≤ Y2.heap.size ∧ ¬ Y1.heap.size = Y2.heap.size := by refine ⟨?_, ?_, ?_⟩ <;> omega
     have HZ : Shh (Row Y4 N 24 (pc p) ∧ Row Y4 (N + 1) 24 (pc p2) ∧ Row Y4 Y1.heap.size 24 (pc fun _ => 0) ∧ Row Y4 Y2.heap.size 24 (pc fun _ => 0) ∧ Below N w Y4 ∧ N + 2 ≤ Y1.heap.size ∧ N + 2 ≤ Y2.heap.size ∧ ¬ Y1.heap.size = Y2.heap.size) := ⟨(q0.go b_V), (q1.go b_V), (rA.go b_Y2), (rB.go b_Y3), bN.trans (b_V.mono (by omega)), hne⟩
     clear hne
     generalize Y1.heap.size = gA at HZ ⊢
     generalize Y2.heap.size = gB at HZ ⊢
     clear m_Y4 b_Y3 m_Y3 b_Y2 z_rB rB m_Y2 b_Y1 z_rA rA m_Y1 b_V
     revert HZ
     revert Y4 gA gB
     exact hT.out
   ·refine step_value 5 _ _ (some 6) (.pointer (some ⟨Y1.heap.size, 0, none⟩)) (Y1.alloc (.cells (pc fun _ => 0).toArray 24)) (by rfl) (by kernel_rfl) (run_allocP rfl) (⟨((q0.go b_V)).alloc _, ((q1.go b_V)).alloc _⟩) ?_
    simp only [Act.put, arr9, hd9, tl9]
    have bx : Below Y1.heap.size Y1 (Y1.alloc (.cells (pc fun _ => 0).toArray 24)) := Below.alloc (Below.refl _ _) (Nat.le_refl _) _
    have rB : Row (Y1.alloc (.cells (pc fun _ => 0).toArray 24)) Y1.heap.size 24 (pc fun _ => 0) := Row.new_ rfl rfl
    have z_rB := asz Y1 (.cells (pc fun _ => 0).toArray 24)
    generalize Y1.alloc (.cells (pc fun _ => 0).toArray 24) = Y2 at *
    replace b_V := Below.chain b_V bx
    have b_Y1 := bx
    have m_Y2 : Y1.heap.size ≤ Y2.heap.size := bx.size
    clear bx
    refine held_two 3 4 (by kernel_rfl) ?_ ?_
    ·refine step_call 3 _ _ (some 10) 22 #[.agg (pc p2).toArray] (by rfl) (by kernel_rfl) (by first | kernel_rfl | go_simp) ?_
     refine (HY.out Y2).mono ?_
     rintro e Y3 ⟨rfl, b1⟩
     have bx : Below Y2.heap.size Y2 Y3 := b1
     clear b1
     replace b_V := Below.chain b_V bx
     replace b_Y1 := Below.chain b_Y1 bx
     have b_Y2 := bx
     have m_Y3 : Y2.heap.size ≤ Y3.heap.size := bx.size
     clear bx
     refine ⟨_, rfl, ⟨(q0.go b_V), (q1.go b_V)⟩, ?_⟩
     simp only [Act.put, arr9, hd9, tl9]
     refine held_one 4 (by kernel_rfl) ?_
     refine step_value 4 _ _ (some 5) (.pointer (some ⟨Y3.heap.size, 0, none⟩)) (Y3.alloc (.cells (pc fun _ => 0).toArray 24)) (by rfl) (by kernel_rfl) (run_allocP rfl) (⟨((q0.go b_V)).alloc _, ((q1.go b_V)).alloc _⟩) ?_
     simp only [Act.put, arr9, hd9, tl9]
     have bx : Below Y3.heap.size Y3 (Y3.alloc (.cells (pc fun _ => 0).toArray 24)) := Below.alloc (Below.refl _ _) (Nat.le_refl _) _
     have rA : Row (Y3.alloc (.cells (pc fun _ => 0).toArray 24)) Y3.heap.size 24 (pc fun _ => 0) := Row.new_ rfl rfl
     have z_rA := asz Y3 (.cells (pc fun _ => 0).toArray 24)
     generalize Y3.alloc (.cells (pc fun _ => 0).toArray 24) = Y4 at *
     replace b_V := Below.chain b_V bx
     replace b_Y1 := Below.chain b_Y1 bx
     replace b_Y2 := Below.chain b_Y2 bx
     have b_Y3 := bx
     have m_Y4 : Y3.heap.size ≤ Y4.heap.size := bx.size
     clear bx
     have hne : N + 2 ≤ Y3.heap.size ∧ N + 2 ≤ Y1.heap.size ∧ ¬ Y3.heap.size = Y1.heap.size := by refine ⟨?_, ?_, ?_⟩ <;> omega
     have HZ : Shh (Row Y4 N 24 (pc p) ∧ Row Y4 (N + 1) 24 (pc p2) ∧ Row Y4 Y3.heap.size 24 (pc fun _ => 0) ∧ Row Y4 Y1.heap.size 24 (pc fun _ => 0) ∧ Below N w Y4 ∧ N + 2 ≤ Y3.heap.size ∧ N + 2 ≤ Y1.heap.size ∧ ¬ Y3.heap.size = Y1.heap.size) := ⟨(q0.go b_V), (q1.go b_V), rA, (rB.go b_Y2), bN.trans (b_V.mono (by omega)), hne⟩
     clear hne
     generalize Y3.heap.size = gA at HZ ⊢
     generalize Y1.heap.size = gB at HZ ⊢
     clear m_Y4 b_Y3 z_rA rA m_Y3 b_Y2 m_Y2 b_Y1 z_rB rB m_Y1 b_V
     revert HZ
     revert Y4 gA gB
     exact hT.out
    ·refine step_value 4 _ _ (some 5) (.pointer (some ⟨Y2.heap.size, 0, none⟩)) (Y2.alloc (.cells (pc fun _ => 0).toArray 24)) (by rfl) (by kernel_rfl) (run_allocP rfl) (⟨((q0.go b_V)).alloc _, ((q1.go b_V)).alloc _⟩) ?_
     simp only [Act.put, arr9, hd9, tl9]
     have bx : Below Y2.heap.size Y2 (Y2.alloc (.cells (pc fun _ => 0).toArray 24)) := Below.alloc (Below.refl _ _) (Nat.le_refl _) _
     have rA : Row (Y2.alloc (.cells (pc fun _ => 0).toArray 24)) Y2.heap.size 24 (pc fun _ => 0) := Row.new_ rfl rfl
     have z_rA := asz Y2 (.cells (pc fun _ => 0).toArray 24)
     generalize Y2.alloc (.cells (pc fun _ => 0).toArray 24) = Y3 at *
     replace b_V := Below.chain b_V bx
     replace b_Y1 := Below.chain b_Y1 bx
     have b_Y2 := bx
     have m_Y3 : Y2.heap.size ≤ Y3.heap.size := bx.size
     clear bx
     refine held_one 3 (by kernel_rfl) ?_
     refine step_call 3 _ _ (some 10) 22 #[.agg (pc p2).toArray] (by rfl) (by kernel_rfl) (by first | kernel_rfl | go_simp) ?_
     refine (HY.out Y3).mono ?_
     rintro e Y4 ⟨rfl, b1⟩
     have bx : Below Y3.heap.size Y3 Y4 := b1
     clear b1
     replace b_V := Below.chain b_V bx
     replace b_Y1 := Below.chain b_Y1 bx
     replace b_Y2 := Below.chain b_Y2 bx
     have b_Y3 := bx
     have m_Y4 : Y3.heap.size ≤ Y4.heap.size := bx.size
     clear bx
     refine ⟨_, rfl, ⟨(q0.go b_V), (q1.go b_V)⟩, ?_⟩
     simp only [Act.put, arr9, hd9, tl9]
     have hne : N + 2 ≤ Y2.heap.size ∧ N + 2 ≤ Y1.heap.size ∧ ¬ Y2.heap.size = Y1.heap.size := by refine ⟨?_, ?_, ?_⟩ <;> omega
     have HZ : Shh (Row Y4 N 24 (pc p) ∧ Row Y4 (N + 1) 24 (pc p2) ∧ Row Y4 Y2.heap.size 24 (pc fun _ => 0) ∧ Row Y4 Y1.heap.size 24 (pc fun _ => 0) ∧ Below N w Y4 ∧ N + 2 ≤ Y2.heap.size ∧ N + 2 ≤ Y1.heap.size ∧ ¬ Y2.heap.size = Y1.heap.size) := ⟨(q0.go b_V), (q1.go b_V), (rA.go b_Y3), (rB.go b_Y2), bN.trans (b_V.mono (by omega)), hne⟩
     clear hne
     generalize Y2.heap.size = gA at HZ ⊢
     generalize Y1.heap.size = gB at HZ ⊢
     clear m_Y4 b_Y3 m_Y3 b_Y2 z_rA rA m_Y2 b_Y1 z_rB rB m_Y1 b_V
     revert HZ
     revert Y4 gA gB
     exact hT.out
  ·refine step_value 4 _ _ (some 5) (.pointer (some ⟨V.heap.size, 0, none⟩)) (V.alloc (.cells (pc fun _ => 0).toArray 24)) (by rfl) (by kernel_rfl) (run_allocP rfl) (⟨(q0).alloc _, (q1).alloc _⟩) ?_
   simp only [Act.put, arr9, hd9, tl9]
   have bx : Below V.heap.size V (V.alloc (.cells (pc fun _ => 0).toArray 24)) := Below.alloc (Below.refl _ _) (Nat.le_refl _) _
   have rA : Row (V.alloc (.cells (pc fun _ => 0).toArray 24)) V.heap.size 24 (pc fun _ => 0) := Row.new_ rfl rfl
   have z_rA := asz V (.cells (pc fun _ => 0).toArray 24)
   generalize V.alloc (.cells (pc fun _ => 0).toArray 24) = Y1 at *
   have b_V := bx
   have m_Y1 : V.heap.size ≤ Y1.heap.size := bx.size
   clear bx
   refine held_two 1 5 (by kernel_rfl) ?_ ?_
   ·refine step_call 1 _ _ (some 8) 22 #[.agg (pc p).toArray] (by rfl) (by kernel_rfl) (by first | kernel_rfl | go_simp) ?_
    refine (HX.out Y1).mono ?_
    rintro e Y2 ⟨rfl, b1⟩
    have bx : Below Y1.heap.size Y1 Y2 := b1
    clear b1
    replace b_V := Below.chain b_V bx
    have b_Y1 := bx
    have m_Y2 : Y1.heap.size ≤ Y2.heap.size := bx.size
    clear bx
    refine ⟨_, rfl, ⟨(q0.go b_V), (q1.go b_V)⟩, ?_⟩
    simp only [Act.put, arr9, hd9, tl9]
    refine held_two 3 5 (by kernel_rfl) ?_ ?_
    ·refine step_call 3 _ _ (some 10) 22 #[.agg (pc p2).toArray] (by rfl) (by kernel_rfl) (by first | kernel_rfl | go_simp) ?_
     refine (HY.out Y2).mono ?_
     rintro e Y3 ⟨rfl, b1⟩
     have bx : Below Y2.heap.size Y2 Y3 := b1
     clear b1
     replace b_V := Below.chain b_V bx
     replace b_Y1 := Below.chain b_Y1 bx
     have b_Y2 := bx
     have m_Y3 : Y2.heap.size ≤ Y3.heap.size := bx.size
     clear bx
     refine ⟨_, rfl, ⟨(q0.go b_V), (q1.go b_V)⟩, ?_⟩
     simp only [Act.put, arr9, hd9, tl9]
     refine held_one 5 (by kernel_rfl) ?_
     refine step_value 5 _ _ (some 6) (.pointer (some ⟨Y3.heap.size, 0, none⟩)) (Y3.alloc (.cells (pc fun _ => 0).toArray 24)) (by rfl) (by kernel_rfl) (run_allocP rfl) (⟨((q0.go b_V)).alloc _, ((q1.go b_V)).alloc _⟩) ?_
     simp only [Act.put, arr9, hd9, tl9]
     have bx : Below Y3.heap.size Y3 (Y3.alloc (.cells (pc fun _ => 0).toArray 24)) := Below.alloc (Below.refl _ _) (Nat.le_refl _) _
     have rB : Row (Y3.alloc (.cells (pc fun _ => 0).toArray 24)) Y3.heap.size 24 (pc fun _ => 0) := Row.new_ rfl rfl
     have z_rB := asz Y3 (.cells (pc fun _ => 0).toArray 24)
     generalize Y3.alloc (.cells (pc fun _ => 0).toArray 24) = Y4 at *
     replace b_V := Below.chain b_V bx
     replace b_Y1 := Below.chain b_Y1 bx
     replace b_Y2 := Below.chain b_Y2 bx
     have b_Y3 := bx
     have m_Y4 : Y3.heap.size ≤ Y4.heap.size := bx.size
     clear bx
     have hne : N + 2 ≤ V.heap.size ∧ N + 2 ≤ Y3.heap.size ∧ ¬ V.heap.size = Y3.heap.size := by refine ⟨?_, ?_, ?_⟩ <;> omega
     have HZ : Shh (Row Y4 N 24 (pc p) ∧ Row Y4 (N + 1) 24 (pc p2) ∧ Row Y4 V.heap.size 24 (pc fun _ => 0) ∧ Row Y4 Y3.heap.size 24 (pc fun _ => 0) ∧ Below N w Y4 ∧ N + 2 ≤ V.heap.size ∧ N + 2 ≤ Y3.heap.size ∧ ¬ V.heap.size = Y3.heap.size) := ⟨(q0.go b_V), (q1.go b_V), (rA.go b_Y1), rB, bN.trans (b_V.mono (by omega)), hne⟩
     clear hne
     generalize V.heap.size = gA at HZ ⊢
     generalize Y3.heap.size = gB at HZ ⊢
     clear m_Y4 b_Y3 z_rB rB m_Y3 b_Y2 m_Y2 b_Y1 m_Y1 b_V z_rA rA
     revert HZ
     revert Y4 gA gB
     exact hT.out
    ·refine step_value 5 _ _ (some 6) (.pointer (some ⟨Y2.heap.size, 0, none⟩)) (Y2.alloc (.cells (pc fun _ => 0).toArray 24)) (by rfl) (by kernel_rfl) (run_allocP rfl) (⟨((q0.go b_V)).alloc _, ((q1.go b_V)).alloc _⟩) ?_
     simp only [Act.put, arr9, hd9, tl9]
     have bx : Below Y2.heap.size Y2 (Y2.alloc (.cells (pc fun _ => 0).toArray 24)) := Below.alloc (Below.refl _ _) (Nat.le_refl _) _
     have rB : Row (Y2.alloc (.cells (pc fun _ => 0).toArray 24)) Y2.heap.size 24 (pc fun _ => 0) := Row.new_ rfl rfl
     have z_rB := asz Y2 (.cells (pc fun _ => 0).toArray 24)
     generalize Y2.alloc (.cells (pc fun _ => 0).toArray 24) = Y3 at *
     replace b_V := Below.chain b_V bx
     replace b_Y1 := Below.chain b_Y1 bx
     have b_Y2 := bx
     have m_Y3 : Y2.heap.size ≤ Y3.heap.size := bx.size
     clear bx
     refine held_one 3 (by kernel_rfl) ?_
     refine step_call 3 _ _ (some 10) 22 #[.agg (pc p2).toArray] (by rfl) (by kernel_rfl) (by first | kernel_rfl | go_simp) ?_
     refine (HY.out Y3).mono ?_
     rintro e Y4 ⟨rfl, b1⟩
     have bx : Below Y3.heap.size Y3 Y4 := b1
     clear b1
     replace b_V := Below.chain b_V bx
     replace b_Y1 := Below.chain b_Y1 bx
     replace b_Y2 := Below.chain b_Y2 bx
     have b_Y3 := bx
     have m_Y4 : Y3.heap.size ≤ Y4.heap.size := bx.size
     clear bx
     refine ⟨_, rfl, ⟨(q0.go b_V), (q1.go b_V)⟩, ?_⟩
     simp only [Act.put, arr9, hd9, tl9]
     have hne : N + 2 ≤ V.heap.size ∧ N + 2 ≤ Y2.heap.size ∧ ¬ V.heap.size = Y2.heap.size := by refine ⟨?_, ?_, ?_⟩ <;> omega
     have HZ : Shh (Row Y4 N 24 (pc p) ∧ Row Y4 (N + 1) 24 (pc p2) ∧ Row Y4 V.heap.size 24 (pc fun _ => 0) ∧ Row Y4 Y2.heap.size 24 (pc fun _ => 0) ∧ Below N w Y4 ∧ N + 2 ≤ V.heap.size ∧ N + 2 ≤ Y2.heap.size ∧ ¬ V.heap.size = Y2.heap.size) := ⟨(q0.go b_V), (q1.go b_V), (rA.go b_Y1), (rB.go b_Y3), bN.trans (b_V.mono (by omega)), hne⟩
     clear hne
     generalize V.heap.size = gA at HZ ⊢
     generalize Y2.heap.size = gB at HZ ⊢
     clear m_Y4 b_Y3 m_Y3 b_Y2 z_rB rB m_Y2 b_Y1 m_Y1 b_V z_rA rA
     revert HZ
     revert Y4 gA gB
     exact hT.out
   ·refine step_value 5 _ _ (some 6) (.pointer (some ⟨Y1.heap.size, 0, none⟩)) (Y1.alloc (.cells (pc fun _ => 0).toArray 24)) (by rfl) (by kernel_rfl) (run_allocP rfl) (⟨((q0.go b_V)).alloc _, ((q1.go b_V)).alloc _⟩) ?_
    simp only [Act.put, arr9, hd9, tl9]
    have bx : Below Y1.heap.size Y1 (Y1.alloc (.cells (pc fun _ => 0).toArray 24)) := Below.alloc (Below.refl _ _) (Nat.le_refl _) _
    have rB : Row (Y1.alloc (.cells (pc fun _ => 0).toArray 24)) Y1.heap.size 24 (pc fun _ => 0) := Row.new_ rfl rfl
    have z_rB := asz Y1 (.cells (pc fun _ => 0).toArray 24)
    generalize Y1.alloc (.cells (pc fun _ => 0).toArray 24) = Y2 at *
    replace b_V := Below.chain b_V bx
    have b_Y1 := bx
    have m_Y2 : Y1.heap.size ≤ Y2.heap.size := bx.size
    clear bx
    refine held_one 1 (by kernel_rfl) ?_
    refine step_call 1 _ _ (some 8) 22 #[.agg (pc p).toArray] (by rfl) (by kernel_rfl) (by first | kernel_rfl | go_simp) ?_
    refine (HX.out Y2).mono ?_
    rintro e Y3 ⟨rfl, b1⟩
    have bx : Below Y2.heap.size Y2 Y3 := b1
    clear b1
    replace b_V := Below.chain b_V bx
    replace b_Y1 := Below.chain b_Y1 bx
    have b_Y2 := bx
    have m_Y3 : Y2.heap.size ≤ Y3.heap.size := bx.size
    clear bx
    refine ⟨_, rfl, ⟨(q0.go b_V), (q1.go b_V)⟩, ?_⟩
    simp only [Act.put, arr9, hd9, tl9]
    refine held_one 3 (by kernel_rfl) ?_
    refine step_call 3 _ _ (some 10) 22 #[.agg (pc p2).toArray] (by rfl) (by kernel_rfl) (by first | kernel_rfl | go_simp) ?_
    refine (HY.out Y3).mono ?_
    rintro e Y4 ⟨rfl, b1⟩
    have bx : Below Y3.heap.size Y3 Y4 := b1
    clear b1
    replace b_V := Below.chain b_V bx
    replace b_Y1 := Below.chain b_Y1 bx
    replace b_Y2 := Below.chain b_Y2 bx
    have b_Y3 := bx
    have m_Y4 : Y3.heap.size ≤ Y4.heap.size := bx.size
    clear bx
    refine ⟨_, rfl, ⟨(q0.go b_V), (q1.go b_V)⟩, ?_⟩
    simp only [Act.put, arr9, hd9, tl9]
    have hne : N + 2 ≤ V.heap.size ∧ N + 2 ≤ Y1.heap.size ∧ ¬ V.heap.size = Y1.heap.size := by refine ⟨?_, ?_, ?_⟩ <;> omega
    have HZ : Shh (Row Y4 N 24 (pc p) ∧ Row Y4 (N + 1) 24 (pc p2) ∧ Row Y4 V.heap.size 24 (pc fun _ => 0) ∧ Row Y4 Y1.heap.size 24 (pc fun _ => 0) ∧ Below N w Y4 ∧ N + 2 ≤ V.heap.size ∧ N + 2 ≤ Y1.heap.size ∧ ¬ V.heap.size = Y1.heap.size) := ⟨(q0.go b_V), (q1.go b_V), (rA.go b_Y1), (rB.go b_Y2), bN.trans (b_V.mono (by omega)), hne⟩
    clear hne
    generalize V.heap.size = gA at HZ ⊢
    generalize Y1.heap.size = gB at HZ ⊢
    clear m_Y4 b_Y3 m_Y3 b_Y2 m_Y2 b_Y1 z_rB rB m_Y1 b_V z_rA rA
    revert HZ
    revert Y4 gA gB
    exact hT.out
  ·refine step_value 5 _ _ (some 6) (.pointer (some ⟨V.heap.size, 0, none⟩)) (V.alloc (.cells (pc fun _ => 0).toArray 24)) (by rfl) (by kernel_rfl) (run_allocP rfl) (⟨(q0).alloc _, (q1).alloc _⟩) ?_
   simp only [Act.put, arr9, hd9, tl9]
   have bx : Below V.heap.size V (V.alloc (.cells (pc fun _ => 0).toArray 24)) := Below.alloc (Below.refl _ _) (Nat.le_refl _) _
   have rB : Row (V.alloc (.cells (pc fun _ => 0).toArray 24)) V.heap.size 24 (pc fun _ => 0) := Row.new_ rfl rfl
   have z_rB := asz V (.cells (pc fun _ => 0).toArray 24)
   generalize V.alloc (.cells (pc fun _ => 0).toArray 24) = Y1 at *
   have b_V := bx
   have m_Y1 : V.heap.size ≤ Y1.heap.size := bx.size
   clear bx
   refine held_two 1 4 (by kernel_rfl) ?_ ?_
   ·refine step_call 1 _ _ (some 8) 22 #[.agg (pc p).toArray] (by rfl) (by kernel_rfl) (by first | kernel_rfl | go_simp) ?_
    refine (HX.out Y1).mono ?_
    rintro e Y2 ⟨rfl, b1⟩
    have bx : Below Y1.heap.size Y1 Y2 := b1
    clear b1
    replace b_V := Below.chain b_V bx
    have b_Y1 := bx
    have m_Y2 : Y1.heap.size ≤ Y2.heap.size := bx.size
    clear bx
    refine ⟨_, rfl, ⟨(q0.go b_V), (q1.go b_V)⟩, ?_⟩
    simp only [Act.put, arr9, hd9, tl9]
    refine held_two 3 4 (by kernel_rfl) ?_ ?_
    ·refine step_call 3 _ _ (some 10) 22 #[.agg (pc p2).toArray] (by rfl) (by kernel_rfl) (by first | kernel_rfl | go_simp) ?_
     refine (HY.out Y2).mono ?_
     rintro e Y3 ⟨rfl, b1⟩
     have bx : Below Y2.heap.size Y2 Y3 := b1
     clear b1
     replace b_V := Below.chain b_V bx
     replace b_Y1 := Below.chain b_Y1 bx
     have b_Y2 := bx
     have m_Y3 : Y2.heap.size ≤ Y3.heap.size := bx.size
     clear bx
     refine ⟨_, rfl, ⟨(q0.go b_V), (q1.go b_V)⟩, ?_⟩
     simp only [Act.put, arr9, hd9, tl9]
     refine held_one 4 (by kernel_rfl) ?_
     refine step_value 4 _ _ (some 5) (.pointer (some ⟨Y3.heap.size, 0, none⟩)) (Y3.alloc (.cells (pc fun _ => 0).toArray 24)) (by rfl) (by kernel_rfl) (run_allocP rfl) (⟨((q0.go b_V)).alloc _, ((q1.go b_V)).alloc _⟩) ?_
     simp only [Act.put, arr9, hd9, tl9]
     have bx : Below Y3.heap.size Y3 (Y3.alloc (.cells (pc fun _ => 0).toArray 24)) := Below.alloc (Below.refl _ _) (Nat.le_refl _) _
     have rA : Row (Y3.alloc (.cells (pc fun _ => 0).toArray 24)) Y3.heap.size 24 (pc fun _ => 0) := Row.new_ rfl rfl
     have z_rA := asz Y3 (.cells (pc fun _ => 0).toArray 24)
     generalize Y3.alloc (.cells (pc fun _ => 0).toArray 24) = Y4 at *
     replace b_V := Below.chain b_V bx
     replace b_Y1 := Below.chain b_Y1 bx
     replace b_Y2 := Below.chain b_Y2 bx
     have b_Y3 := bx
     have m_Y4 : Y3.heap.size ≤ Y4.heap.size := bx.size
     clear bx
     have hne : N + 2 ≤ Y3.heap.size ∧ N + 2 ≤ V.heap.size ∧ ¬ Y3.heap.size = V.heap.size := by refine ⟨?_, ?_, ?_⟩ <;> omega
     have HZ : Shh (Row Y4 N 24 (pc p) ∧ Row Y4 (N + 1) 24 (pc p2) ∧ Row Y4 Y3.heap.size 24 (pc fun _ => 0) ∧ Row Y4 V.heap.size 24 (pc fun _ => 0) ∧ Below N w Y4 ∧ N + 2 ≤ Y3.heap.size ∧ N + 2 ≤ V.heap.size ∧ ¬ Y3.heap.size = V.heap.size) := ⟨(q0.go b_V), (q1.go b_V), rA, (rB.go b_Y1), bN.trans (b_V.mono (by omega)), hne⟩
     clear hne
     generalize Y3.heap.size = gA at HZ ⊢
     generalize V.heap.size = gB at HZ ⊢
     clear m_Y4 b_Y3 z_rA rA m_Y3 b_Y2 m_Y2 b_Y1 m_Y1 b_V z_rB rB
     revert HZ
     revert Y4 gA gB
     exact hT.out
    ·refine step_value 4 _ _ (some 5) (.pointer (some ⟨Y2.heap.size, 0, none⟩)) (Y2.alloc (.cells (pc fun _ => 0).toArray 24)) (by rfl) (by kernel_rfl) (run_allocP rfl) (⟨((q0.go b_V)).alloc _, ((q1.go b_V)).alloc _⟩) ?_
     simp only [Act.put, arr9, hd9, tl9]
     have bx : Below Y2.heap.size Y2 (Y2.alloc (.cells (pc fun _ => 0).toArray 24)) := Below.alloc (Below.refl _ _) (Nat.le_refl _) _
     have rA : Row (Y2.alloc (.cells (pc fun _ => 0).toArray 24)) Y2.heap.size 24 (pc fun _ => 0) := Row.new_ rfl rfl
     have z_rA := asz Y2 (.cells (pc fun _ => 0).toArray 24)
     generalize Y2.alloc (.cells (pc fun _ => 0).toArray 24) = Y3 at *
     replace b_V := Below.chain b_V bx
     replace b_Y1 := Below.chain b_Y1 bx
     have b_Y2 := bx
     have m_Y3 : Y2.heap.size ≤ Y3.heap.size := bx.size
     clear bx
     refine held_one 3 (by kernel_rfl) ?_
     refine step_call 3 _ _ (some 10) 22 #[.agg (pc p2).toArray] (by rfl) (by kernel_rfl) (by first | kernel_rfl | go_simp) ?_
     refine (HY.out Y3).mono ?_
     rintro e Y4 ⟨rfl, b1⟩
     have bx : Below Y3.heap.size Y3 Y4 := b1
     clear b1
     replace b_V := Below.chain b_V bx
     replace b_Y1 := Below.chain b_Y1 bx
     replace b_Y2 := Below.chain b_Y2 bx
     have b_Y3 := bx
     have m_Y4 : Y3.heap.size ≤ Y4.heap.size := bx.size
     clear bx
     refine ⟨_, rfl, ⟨(q0.go b_V), (q1.go b_V)⟩, ?_⟩
     simp only [Act.put, arr9, hd9, tl9]
     have hne : N + 2 ≤ Y2.heap.size ∧ N + 2 ≤ V.heap.size ∧ ¬ Y2.heap.size = V.heap.size := by refine ⟨?_, ?_, ?_⟩ <;> omega
     have HZ : Shh (Row Y4 N 24 (pc p) ∧ Row Y4 (N + 1) 24 (pc p2) ∧ Row Y4 Y2.heap.size 24 (pc fun _ => 0) ∧ Row Y4 V.heap.size 24 (pc fun _ => 0) ∧ Below N w Y4 ∧ N + 2 ≤ Y2.heap.size ∧ N + 2 ≤ V.heap.size ∧ ¬ Y2.heap.size = V.heap.size) := ⟨(q0.go b_V), (q1.go b_V), (rA.go b_Y3), (rB.go b_Y1), bN.trans (b_V.mono (by omega)), hne⟩
     clear hne
     generalize Y2.heap.size = gA at HZ ⊢
     generalize V.heap.size = gB at HZ ⊢
     clear m_Y4 b_Y3 m_Y3 b_Y2 z_rA rA m_Y2 b_Y1 m_Y1 b_V z_rB rB
     revert HZ
     revert Y4 gA gB
     exact hT.out
   ·refine step_value 4 _ _ (some 5) (.pointer (some ⟨Y1.heap.size, 0, none⟩)) (Y1.alloc (.cells (pc fun _ => 0).toArray 24)) (by rfl) (by kernel_rfl) (run_allocP rfl) (⟨((q0.go b_V)).alloc _, ((q1.go b_V)).alloc _⟩) ?_
    simp only [Act.put, arr9, hd9, tl9]
    have bx : Below Y1.heap.size Y1 (Y1.alloc (.cells (pc fun _ => 0).toArray 24)) := Below.alloc (Below.refl _ _) (Nat.le_refl _) _
    have rA : Row (Y1.alloc (.cells (pc fun _ => 0).toArray 24)) Y1.heap.size 24 (pc fun _ => 0) := Row.new_ rfl rfl
    have z_rA := asz Y1 (.cells (pc fun _ => 0).toArray 24)
    generalize Y1.alloc (.cells (pc fun _ => 0).toArray 24) = Y2 at *
    replace b_V := Below.chain b_V bx
    have b_Y1 := bx
    have m_Y2 : Y1.heap.size ≤ Y2.heap.size := bx.size
    clear bx
    refine held_one 1 (by kernel_rfl) ?_
    refine step_call 1 _ _ (some 8) 22 #[.agg (pc p).toArray] (by rfl) (by kernel_rfl) (by first | kernel_rfl | go_simp) ?_
    refine (HX.out Y2).mono ?_
    rintro e Y3 ⟨rfl, b1⟩
    have bx : Below Y2.heap.size Y2 Y3 := b1
    clear b1
    replace b_V := Below.chain b_V bx
    replace b_Y1 := Below.chain b_Y1 bx
    have b_Y2 := bx
    have m_Y3 : Y2.heap.size ≤ Y3.heap.size := bx.size
    clear bx
    refine ⟨_, rfl, ⟨(q0.go b_V), (q1.go b_V)⟩, ?_⟩
    simp only [Act.put, arr9, hd9, tl9]
    refine held_one 3 (by kernel_rfl) ?_
    refine step_call 3 _ _ (some 10) 22 #[.agg (pc p2).toArray] (by rfl) (by kernel_rfl) (by first | kernel_rfl | go_simp) ?_
    refine (HY.out Y3).mono ?_
    rintro e Y4 ⟨rfl, b1⟩
    have bx : Below Y3.heap.size Y3 Y4 := b1
    clear b1
    replace b_V := Below.chain b_V bx
    replace b_Y1 := Below.chain b_Y1 bx
    replace b_Y2 := Below.chain b_Y2 bx
    have b_Y3 := bx
    have m_Y4 : Y3.heap.size ≤ Y4.heap.size := bx.size
    clear bx
    refine ⟨_, rfl, ⟨(q0.go b_V), (q1.go b_V)⟩, ?_⟩
    simp only [Act.put, arr9, hd9, tl9]
    have hne : N + 2 ≤ Y1.heap.size ∧ N + 2 ≤ V.heap.size ∧ ¬ Y1.heap.size = V.heap.size := by refine ⟨?_, ?_, ?_⟩ <;> omega
    have HZ : Shh (Row Y4 N 24 (pc p) ∧ Row Y4 (N + 1) 24 (pc p2) ∧ Row Y4 Y1.heap.size 24 (pc fun _ => 0) ∧ Row Y4 V.heap.size 24 (pc fun _ => 0) ∧ Below N w Y4 ∧ N + 2 ≤ Y1.heap.size ∧ N + 2 ≤ V.heap.size ∧ ¬ Y1.heap.size = V.heap.size) := ⟨(q0.go b_V), (q1.go b_V), (rA.go b_Y2), (rB.go b_Y1), bN.trans (b_V.mono (by omega)), hne⟩
    clear hne
    generalize Y1.heap.size = gA at HZ ⊢
    generalize V.heap.size = gB at HZ ⊢
    clear m_Y4 b_Y3 m_Y3 b_Y2 m_Y2 b_Y1 z_rA rA m_Y1 b_V z_rB rB
    revert HZ
    revert Y4 gA gB
    exact hT.out
 case tt0 =>
  clear q0 q1 bN hNV HX HY
  intro V gA gB F
  refine held_one 6 (by kernel_rfl) ?_
  refine step_storeRow 6 24 (.tmp 5) (.tmp 8) (by rfl) (by kernel_rfl) gA (by kernel_rfl) (pc x) (by kernel_rfl) 24 _ F.out.2.2.1 (info_poly.trans (size_poly x)) (by rw [pc_length, pc_length]) (pc_one x) ?_
  intro Y1 r6 b6 z6
  have F2 : Shh (Row Y1 N 24 (pc p) ∧ Row Y1 (N + 1) 24 (pc p2) ∧ Row Y1 gA 24 (pc x) ∧ Row Y1 gB 24 (pc fun _ => 0) ∧ Below N w Y1 ∧ N + 2 ≤ gA ∧ N + 2 ≤ gB ∧ ¬ gA = gB) := ⟨b6.row F.out.1 F.out.1.lt (by have := F.out.2.2.2.2.2; omega), b6.row F.out.2.1 F.out.2.1.lt (by have := F.out.2.2.2.2.2; omega), r6, b6.row F.out.2.2.2.1 F.out.2.2.2.1.lt (by have := F.out.2.2.2.2.2; omega), F.out.2.2.2.2.1.trans (b6.under (Nat.le_of_lt F.out.1.lt) (by have := F.out.2.2.2.2.2; omega)), F.out.2.2.2.2.2⟩
  clear r6 b6 z6 F
  refine ⟨⟨F2.out.1, F2.out.2.1⟩, ?_⟩
  refine held_one 7 (by kernel_rfl) ?_
  refine step_storeRow 7 24 (.tmp 6) (.tmp 10) (by rfl) (by kernel_rfl) gB (by kernel_rfl) (pc y) (by kernel_rfl) 24 _ F2.out.2.2.2.1 (info_poly.trans (size_poly y)) (by rw [pc_length, pc_length]) (pc_one y) ?_
  intro Y2 r6 b6 z6
  have F3 : Shh (Row Y2 N 24 (pc p) ∧ Row Y2 (N + 1) 24 (pc p2) ∧ Row Y2 gA 24 (pc x) ∧ Row Y2 gB 24 (pc y) ∧ Below N w Y2 ∧ N + 2 ≤ gA ∧ N + 2 ≤ gB ∧ ¬ gA = gB) := ⟨b6.row F2.out.1 F2.out.1.lt (by have := F2.out.2.2.2.2.2; omega), b6.row F2.out.2.1 F2.out.2.1.lt (by have := F2.out.2.2.2.2.2; omega), b6.row F2.out.2.2.1 F2.out.2.2.1.lt (by have := F2.out.2.2.2.2.2; omega), r6, F2.out.2.2.2.2.1.trans (b6.under (Nat.le_of_lt F2.out.1.lt) (by have := F2.out.2.2.2.2.2; omega)), F2.out.2.2.2.2.2⟩
  clear r6 b6 z6 F2
  refine ⟨⟨F3.out.1, F3.out.2.1⟩, ?_⟩
  refine wpAnyH_done (by kernel_rfl) ?_ _
  go_wp2
  refine wp_region_held_drew (S := fun w' => Row w' N 24 (pc p) ∧ Row w' (N + 1) 24 (pc p2) ∧ Row w' gA 24 (pc x) ∧ Row w' gB 24 (pc y)) (by kernel_rfl) ⟨F3.out.1.drew, F3.out.2.1.drew, F3.out.2.2.1.drew, F3.out.2.2.2.1.drew⟩ (fun hS => ?_)
  clear hS
  obtain ⟨U, hU⟩ : ∃ U, U = World.drew Y2 := ⟨_, rfl⟩
  rw [← hU]
  have q0 : Row U N 24 (pc p) := by rw [hU]; exact F3.out.1.drew
  have q1 : Row U (N + 1) 24 (pc p2) := by rw [hU]; exact F3.out.2.1.drew
  have q2 : Row U gA 24 (pc x) := by rw [hU]; exact F3.out.2.2.1.drew
  have q3 : Row U gB 24 (pc y) := by rw [hU]; exact F3.out.2.2.2.1.drew
  have bN : Below N w U := by rw [hU]; exact F3.out.2.2.2.2.1.drew
  clear F3 hU
  refine held_one 0 (by kernel_rfl) ?_
  refine step_call 0 _ _ (some 11) 13 #[] (by rfl) (by kernel_rfl) (by first | kernel_rfl | go_simp) ?_
  refine (HLV.out U).mono ?_
  rintro e Y1 ⟨rfl, b1⟩
  have bx : Below U.heap.size U Y1 := b1
  clear b1
  have b_U := bx
  have m_Y1 : U.heap.size ≤ Y1.heap.size := bx.size
  clear bx
  refine ⟨_, rfl, ⟨(q0.go b_U), (q1.go b_U), (q2.go b_U), (q3.go b_U)⟩, ?_⟩
  simp only [Act.put, arr9, hd9, tl9]
  refine hdv0 1 12 (.bool true) (by rfl) (⟨(q0.go b_U), (q1.go b_U), (q2.go b_U), (q3.go b_U)⟩) ?_
  refine held_load 2 24 (.tmp 2) (some 13) (by kernel_rfl) (by rfl) (by kernel_rfl) N 0 (by kernel_rfl) (pc p) _ (fun w h => h.1.range) Try.underlying24 rfl (info_poly.trans (size_poly _)) (fun _ _ _ _ h => h) (⟨(q0.go b_U), (q1.go b_U), (q2.go b_U), (q3.go b_U)⟩) ?_
  simp only [Act.put, arr9, hd9, tl9]
  refine held_load 3 24 (.tmp 3) (some 14) (by kernel_rfl) (by rfl) (by kernel_rfl) (N + 1) 0 (by kernel_rfl) (pc p2) _ (fun w h => h.2.1.range) Try.underlying24 rfl (info_poly.trans (size_poly _)) (fun _ _ _ _ h => h) (⟨(q0.go b_U), (q1.go b_U), (q2.go b_U), (q3.go b_U)⟩) ?_
  simp only [Act.put, arr9, hd9, tl9]
  refine held_load 6 24 (.tmp 5) (some 17) (by kernel_rfl) (by rfl) (by kernel_rfl) gA 0 (by kernel_rfl) (pc x) _ (fun w h => h.2.2.1.range) Try.underlying24 rfl (info_poly.trans (size_poly _)) (fun _ _ _ _ h => h) (⟨(q0.go b_U), (q1.go b_U), (q2.go b_U), (q3.go b_U)⟩) ?_
  simp only [Act.put, arr9, hd9, tl9]
  refine held_load 7 24 (.tmp 6) (some 18) (by kernel_rfl) (by rfl) (by kernel_rfl) gB 0 (by kernel_rfl) (pc y) _ (fun w h => h.2.2.2.range) Try.underlying24 rfl (info_poly.trans (size_poly _)) (fun _ _ _ _ h => h) (⟨(q0.go b_U), (q1.go b_U), (q2.go b_U), (q3.go b_U)⟩) ?_
  simp only [Act.put, arr9, hd9, tl9]
  refine held_one 4 (by kernel_rfl) ?_
  refine step_call 4 _ _ (some 15) 20 #[.agg (pc p).toArray, .agg (pc p2).toArray] (by rfl) (by kernel_rfl) (by first | kernel_rfl | go_simp) ?_
  refine (HM.out Y1).mono ?_
  rintro e Y2 ⟨rfl, b1⟩
  have bx : Below Y1.heap.size Y1 Y2 := b1
  clear b1
  replace b_U := Below.chain b_U bx
  have b_Y1 := bx
  have m_Y2 : Y1.heap.size ≤ Y2.heap.size := bx.size
  clear bx
  refine ⟨_, rfl, ⟨(q0.go b_U), (q1.go b_U), (q2.go b_U), (q3.go b_U)⟩, ?_⟩
  simp only [Act.put, arr9, hd9, tl9]
  refine held_one 5 (by kernel_rfl) ?_
  refine step_call 5 _ _ (some 16) 22 #[.agg (pc m).toArray] (by rfl) (by kernel_rfl) (by first | kernel_rfl | go_simp) ?_
  refine (HMN.out Y2).mono ?_
  rintro e Y3 ⟨rfl, b1⟩
  have bx : Below Y2.heap.size Y2 Y3 := b1
  clear b1
  replace b_U := Below.chain b_U bx
  replace b_Y1 := Below.chain b_Y1 bx
  have b_Y2 := bx
  have m_Y3 : Y2.heap.size ≤ Y3.heap.size := bx.size
  clear bx
  refine ⟨_, rfl, ⟨(q0.go b_U), (q1.go b_U), (q2.go b_U), (q3.go b_U)⟩, ?_⟩
  simp only [Act.put, arr9, hd9, tl9]
  refine held_one 8 (by kernel_rfl) ?_
  refine step_call 8 _ _ (some 19) 26 #[.agg (pc x).toArray, .agg (pc y).toArray] (by rfl) (by kernel_rfl) (by first | kernel_rfl | go_simp) ?_
  refine (HQ.out Y3).mono ?_
  rintro e Y4 ⟨rfl, b1⟩
  have bx : Below Y3.heap.size Y3 Y4 := b1
  clear b1
  replace b_U := Below.chain b_U bx
  replace b_Y1 := Below.chain b_Y1 bx
  replace b_Y2 := Below.chain b_Y2 bx
  have b_Y3 := bx
  have m_Y4 : Y3.heap.size ≤ Y4.heap.size := bx.size
  clear bx
  refine ⟨_, rfl, ⟨(q0.go b_U), (q1.go b_U), (q2.go b_U), (q3.go b_U)⟩, ?_⟩
  simp only [Act.put, arr9, hd9, tl9]
  refine hdv 9 20 (.bool true) (by rfl) (fun w hS => run_eql_agg (by kernel_rfl) (Eq.out w) (by kernel_rfl) (by kernel_rfl)) (⟨(q0.go b_U), (q1.go b_U), (q2.go b_U), (q3.go b_U)⟩) ?_
  refine hdv0 10 21 (.bool true) (by rfl) (⟨(q0.go b_U), (q1.go b_U), (q2.go b_U), (q3.go b_U)⟩) ?_
  refine hdv0 11 22 (.bool true) (by rfl) (⟨(q0.go b_U), (q1.go b_U), (q2.go b_U), (q3.go b_U)⟩) ?_
  refine held_load 12 24 (.tmp 2) (some 23) (by kernel_rfl) (by rfl) (by kernel_rfl) N 0 (by kernel_rfl) (pc p) _ (fun w h => h.1.range) Try.underlying24 rfl (info_poly.trans (size_poly _)) (fun _ _ _ _ h => h) (⟨(q0.go b_U), (q1.go b_U), (q2.go b_U), (q3.go b_U)⟩) ?_
  simp only [Act.put, arr9, hd9, tl9]
  refine held_load 13 24 (.tmp 3) (some 24) (by kernel_rfl) (by rfl) (by kernel_rfl) (N + 1) 0 (by kernel_rfl) (pc p2) _ (fun w h => h.2.1.range) Try.underlying24 rfl (info_poly.trans (size_poly _)) (fun _ _ _ _ h => h) (⟨(q0.go b_U), (q1.go b_U), (q2.go b_U), (q3.go b_U)⟩) ?_
  simp only [Act.put, arr9, hd9, tl9]
  refine held_load 16 24 (.tmp 5) (some 27) (by kernel_rfl) (by rfl) (by kernel_rfl) gA 0 (by kernel_rfl) (pc x) _ (fun w h => h.2.2.1.range) Try.underlying24 rfl (info_poly.trans (size_poly _)) (fun _ _ _ _ h => h) (⟨(q0.go b_U), (q1.go b_U), (q2.go b_U), (q3.go b_U)⟩) ?_
  simp only [Act.put, arr9, hd9, tl9]
  refine held_load 17 24 (.tmp 6) (some 28) (by kernel_rfl) (by rfl) (by kernel_rfl) gB 0 (by kernel_rfl) (pc y) _ (fun w h => h.2.2.2.range) Try.underlying24 rfl (info_poly.trans (size_poly _)) (fun _ _ _ _ h => h) (⟨(q0.go b_U), (q1.go b_U), (q2.go b_U), (q3.go b_U)⟩) ?_
  simp only [Act.put, arr9, hd9, tl9]
  refine held_one 14 (by kernel_rfl) ?_
  refine step_call 14 _ _ (some 25) 16 #[.agg (pc p).toArray, .agg (pc p2).toArray] (by rfl) (by kernel_rfl) (by first | kernel_rfl | go_simp) ?_
  refine (HS.out Y4).mono ?_
  rintro e Y5 ⟨rfl, b1⟩
  have bx : Below Y4.heap.size Y4 Y5 := b1
  clear b1
  replace b_U := Below.chain b_U bx
  replace b_Y1 := Below.chain b_Y1 bx
  replace b_Y2 := Below.chain b_Y2 bx
  replace b_Y3 := Below.chain b_Y3 bx
  have b_Y4 := bx
  have m_Y5 : Y4.heap.size ≤ Y5.heap.size := bx.size
  clear bx
  refine ⟨_, rfl, ⟨(q0.go b_U), (q1.go b_U), (q2.go b_U), (q3.go b_U)⟩, ?_⟩
  simp only [Act.put, arr9, hd9, tl9]
  refine held_one 15 (by kernel_rfl) ?_
  refine step_call 15 _ _ (some 26) 22 #[.agg (pc s).toArray] (by rfl) (by kernel_rfl) (by first | kernel_rfl | go_simp) ?_
  refine (HSN.out Y5).mono ?_
  rintro e Y6 ⟨rfl, b1⟩
  have bx : Below Y5.heap.size Y5 Y6 := b1
  clear b1
  replace b_U := Below.chain b_U bx
  replace b_Y1 := Below.chain b_Y1 bx
  replace b_Y2 := Below.chain b_Y2 bx
  replace b_Y3 := Below.chain b_Y3 bx
  replace b_Y4 := Below.chain b_Y4 bx
  have b_Y5 := bx
  have m_Y6 : Y5.heap.size ≤ Y6.heap.size := bx.size
  clear bx
  refine ⟨_, rfl, ⟨(q0.go b_U), (q1.go b_U), (q2.go b_U), (q3.go b_U)⟩, ?_⟩
  simp only [Act.put, arr9, hd9, tl9]
  refine held_one 18 (by kernel_rfl) ?_
  refine step_call 18 _ _ (some 29) 16 #[.agg (pc x).toArray, .agg (pc y).toArray] (by rfl) (by kernel_rfl) (by first | kernel_rfl | go_simp) ?_
  refine (HT2.out Y6).mono ?_
  rintro e Y7 ⟨rfl, b1⟩
  have bx : Below Y6.heap.size Y6 Y7 := b1
  clear b1
  replace b_U := Below.chain b_U bx
  replace b_Y1 := Below.chain b_Y1 bx
  replace b_Y2 := Below.chain b_Y2 bx
  replace b_Y3 := Below.chain b_Y3 bx
  replace b_Y4 := Below.chain b_Y4 bx
  replace b_Y5 := Below.chain b_Y5 bx
  have b_Y6 := bx
  have m_Y7 : Y6.heap.size ≤ Y7.heap.size := bx.size
  clear bx
  refine ⟨_, rfl, ⟨(q0.go b_U), (q1.go b_U), (q2.go b_U), (q3.go b_U)⟩, ?_⟩
  simp only [Act.put, arr9, hd9, tl9]
  refine hdv 19 30 (.bool true) (by rfl) (fun w hS => run_eql_agg (by kernel_rfl) (Et.out w) (by kernel_rfl) (by kernel_rfl)) (⟨(q0.go b_U), (q1.go b_U), (q2.go b_U), (q3.go b_U)⟩) ?_
  refine hdv0 20 31 (.bool true) (by rfl) (⟨(q0.go b_U), (q1.go b_U), (q2.go b_U), (q3.go b_U)⟩) ?_
  refine hdv0 21 32 (.bool true) (by rfl) (⟨(q0.go b_U), (q1.go b_U), (q2.go b_U), (q3.go b_U)⟩) ?_
  refine held_load 22 24 (.tmp 5) (some 33) (by kernel_rfl) (by rfl) (by kernel_rfl) gA 0 (by kernel_rfl) (pc x) _ (fun w h => h.2.2.1.range) Try.underlying24 rfl (info_poly.trans (size_poly _)) (fun _ _ _ _ h => h) (⟨(q0.go b_U), (q1.go b_U), (q2.go b_U), (q3.go b_U)⟩) ?_
  simp only [Act.put, arr9, hd9, tl9]
  refine held_load 23 24 (.tmp 6) (some 34) (by kernel_rfl) (by rfl) (by kernel_rfl) gB 0 (by kernel_rfl) (pc y) _ (fun w h => h.2.2.2.range) Try.underlying24 rfl (info_poly.trans (size_poly _)) (fun _ _ _ _ h => h) (⟨(q0.go b_U), (q1.go b_U), (q2.go b_U), (q3.go b_U)⟩) ?_
  simp only [Act.put, arr9, hd9, tl9]
  refine held_load 26 24 (.tmp 2) (some 37) (by kernel_rfl) (by rfl) (by kernel_rfl) N 0 (by kernel_rfl) (pc p) _ (fun w h => h.1.range) Try.underlying24 rfl (info_poly.trans (size_poly _)) (fun _ _ _ _ h => h) (⟨(q0.go b_U), (q1.go b_U), (q2.go b_U), (q3.go b_U)⟩) ?_
  simp only [Act.put, arr9, hd9, tl9]
  refine held_load 27 24 (.tmp 3) (some 38) (by kernel_rfl) (by rfl) (by kernel_rfl) (N + 1) 0 (by kernel_rfl) (pc p2) _ (fun w h => h.2.1.range) Try.underlying24 rfl (info_poly.trans (size_poly _)) (fun _ _ _ _ h => h) (⟨(q0.go b_U), (q1.go b_U), (q2.go b_U), (q3.go b_U)⟩) ?_
  simp only [Act.put, arr9, hd9, tl9]
  refine held_one 24 (by kernel_rfl) ?_
  refine step_call 24 _ _ (some 35) 26 #[.agg (pc x).toArray, .agg (pc y).toArray] (by rfl) (by kernel_rfl) (by first | kernel_rfl | go_simp) ?_
  refine (HQ.out Y7).mono ?_
  rintro e Y8 ⟨rfl, b1⟩
  have bx : Below Y7.heap.size Y7 Y8 := b1
  clear b1
  replace b_U := Below.chain b_U bx
  replace b_Y1 := Below.chain b_Y1 bx
  replace b_Y2 := Below.chain b_Y2 bx
  replace b_Y3 := Below.chain b_Y3 bx
  replace b_Y4 := Below.chain b_Y4 bx
  replace b_Y5 := Below.chain b_Y5 bx
  replace b_Y6 := Below.chain b_Y6 bx
  have b_Y7 := bx
  have m_Y8 : Y7.heap.size ≤ Y8.heap.size := bx.size
  clear bx
  refine ⟨_, rfl, ⟨(q0.go b_U), (q1.go b_U), (q2.go b_U), (q3.go b_U)⟩, ?_⟩
  simp only [Act.put, arr9, hd9, tl9]
  refine held_one 25 (by kernel_rfl) ?_
  refine step_call 25 _ _ (some 36) 24 #[.agg (pc q).toArray] (by rfl) (by kernel_rfl) (by first | kernel_rfl | go_simp) ?_
  refine (HQI.out Y8).mono ?_
  rintro e Y9 ⟨rfl, b1⟩
  have bx : Below Y8.heap.size Y8 Y9 := b1
  clear b1
  replace b_U := Below.chain b_U bx
  replace b_Y1 := Below.chain b_Y1 bx
  replace b_Y2 := Below.chain b_Y2 bx
  replace b_Y3 := Below.chain b_Y3 bx
  replace b_Y4 := Below.chain b_Y4 bx
  replace b_Y5 := Below.chain b_Y5 bx
  replace b_Y6 := Below.chain b_Y6 bx
  replace b_Y7 := Below.chain b_Y7 bx
  have b_Y8 := bx
  have m_Y9 : Y8.heap.size ≤ Y9.heap.size := bx.size
  clear bx
  refine ⟨_, rfl, ⟨(q0.go b_U), (q1.go b_U), (q2.go b_U), (q3.go b_U)⟩, ?_⟩
  simp only [Act.put, arr9, hd9, tl9]
  refine held_one 28 (by kernel_rfl) ?_
  refine step_call 28 _ _ (some 39) 20 #[.agg (pc p).toArray, .agg (pc p2).toArray] (by rfl) (by kernel_rfl) (by first | kernel_rfl | go_simp) ?_
  refine (HM.out Y9).mono ?_
  rintro e Y10 ⟨rfl, b1⟩
  have bx : Below Y9.heap.size Y9 Y10 := b1
  clear b1
  replace b_U := Below.chain b_U bx
  replace b_Y1 := Below.chain b_Y1 bx
  replace b_Y2 := Below.chain b_Y2 bx
  replace b_Y3 := Below.chain b_Y3 bx
  replace b_Y4 := Below.chain b_Y4 bx
  replace b_Y5 := Below.chain b_Y5 bx
  replace b_Y6 := Below.chain b_Y6 bx
  replace b_Y7 := Below.chain b_Y7 bx
  replace b_Y8 := Below.chain b_Y8 bx
  have b_Y9 := bx
  have m_Y10 : Y9.heap.size ≤ Y10.heap.size := bx.size
  clear bx
  refine ⟨_, rfl, ⟨(q0.go b_U), (q1.go b_U), (q2.go b_U), (q3.go b_U)⟩, ?_⟩
  simp only [Act.put, arr9, hd9, tl9]
  refine hdv 29 40 (.bool true) (by rfl) (fun w hS => run_eql_agg (by kernel_rfl) (Em.out w) (by kernel_rfl) (by kernel_rfl)) (⟨(q0.go b_U), (q1.go b_U), (q2.go b_U), (q3.go b_U)⟩) ?_
  refine hdv0 30 41 (.bool true) (by rfl) (⟨(q0.go b_U), (q1.go b_U), (q2.go b_U), (q3.go b_U)⟩) ?_
  refine hdv0 31 4 (.bool true) (by rfl) (⟨(q0.go b_U), (q1.go b_U), (q2.go b_U), (q3.go b_U)⟩) ?_
  refine wpAnyH_done (by kernel_rfl) ?_ _
  have HR : Shh (Below N w Y10) := ⟨bN.trans (b_U.mono (by have := q1.lt; omega))⟩
  clear m_Y10 b_Y9 m_Y9 b_Y8 m_Y8 b_Y7 m_Y7 b_Y6 m_Y6 b_Y5 m_Y5 b_Y4 m_Y4 b_Y3 m_Y3 b_Y2 m_Y2 b_Y1 m_Y1 b_U bN q0 q1 q2 q3
  go_wp2
  go_ret
  exact ⟨rfl, HR.out⟩
end Go.Proofs.Ytfcgdjgfdbcddaa

/-
 THE LAW RingLaws.
-/
namespace Go.Proofs.Ytfcgdjgfdbcddaa
open Go.RowKit
set_option maxRecDepth 100000
/-- the contract of a function of two polynomials, given that its result is r below 256 -/
theorem Poly_of {f : FuncId} {args : Array Value} {w : World} {r q : Nat → Nat} (h : Calls Try.prog f args w (PolyIs w q)) (e : ∀ i, i < 256 → r i = q i) : Calls Try.prog f args w (PolyIs w r) := by
 unfold PolyIs polyV at *
 rw [pc_of e]
 exact h
theorem one_e1 : pc oneN = pc e1P := pc_of fun _ _ => rfl
set_option maxHeartbeats 2000000 in
theorem ringLaws_law (p p2 p3 : Nat → Nat) (hp : ∀ i, i < 256 → p i < 65536) (hp2 : ∀ i, i < 256 → p2 i < 65536) (hp3 : ∀ i, i < 256 → p3 i < 65536) (w : World) : Calls Try.prog 11 #[polyV p, polyV p2, polyV p3] w (TrueIs w) := by
 unfold TrueIs
 have HLV : Shh (∀ W, Calls Try.prog 13 #[] W (TrueIs W)) := ⟨live13⟩
 have bM : ∀ q r : Nat → Nat, ∀ i, i < 256 → mulN q r i < 65536 := fun q r i _ => rd_16 _
 have bA : ∀ q r : Nat → Nat, ∀ i, i < 256 → addN q r i < 65536 := fun q r i _ => rd_16 _
 obtain ⟨s, Hs⟩ : ∃ r, Shh (r = addN p p2) := ⟨_, ⟨rfl⟩⟩
 obtain ⟨m, Hm⟩ : ∃ r, Shh (r = mulN p p2) := ⟨_, ⟨rfl⟩⟩
 obtain ⟨ra, Hra⟩ : ∃ r, Shh (r = redN p) := ⟨_, ⟨rfl⟩⟩
 obtain ⟨t, Ht⟩ : ∃ r, Shh (r = addN s p3) := ⟨_, ⟨rfl⟩⟩
 obtain ⟨u, Hu⟩ : ∃ r, Shh (r = addN p2 p3) := ⟨_, ⟨rfl⟩⟩
 obtain ⟨k, Hk⟩ : ∃ r, Shh (r = mulN m p3) := ⟨_, ⟨rfl⟩⟩
 obtain ⟨n, Hn⟩ : ∃ r, Shh (r = mulN p2 p3) := ⟨_, ⟨rfl⟩⟩
 obtain ⟨o, Ho⟩ : ∃ r, Shh (r = mulN p p3) := ⟨_, ⟨rfl⟩⟩
 obtain ⟨z, Hz⟩ : ∃ r, Shh (r = mulN p u) := ⟨_, ⟨rfl⟩⟩
 have bs : ∀ i, i < 256 → s i < 65536 := by rw [Hs.out]; exact bA _ _
 have bm : ∀ i, i < 256 → m i < 65536 := by rw [Hm.out]; exact bM _ _
 have bu : ∀ i, i < 256 → u i < 65536 := by rw [Hu.out]; exact bA _ _
 have bn : ∀ i, i < 256 → n i < 65536 := by rw [Hn.out]; exact bM _ _
 have bo : ∀ i, i < 256 → o i < 65536 := by rw [Ho.out]; exact bM _ _
 have A1 : Shh (∀ W, Calls Try.prog 16 #[.agg (pc p).toArray, .agg (pc p2).toArray] W (PolyIs W s)) := ⟨fun W => Poly_of (Add_any p p2 hp hp2 W) fun i _ => by rw [Hs.out]⟩
 have A2 : Shh (∀ W, Calls Try.prog 16 #[.agg (pc p2).toArray, .agg (pc p).toArray] W (PolyIs W s)) := ⟨fun W => Poly_of (Add_any p2 p hp2 hp W) fun i _ => by rw [Hs.out]; exact add_comm' p p2 i⟩
 have M1 : Shh (∀ W, Calls Try.prog 20 #[.agg (pc p).toArray, .agg (pc p2).toArray] W (PolyIs W m)) := ⟨fun W => Poly_of (Mul_any p p2 hp hp2 W) fun i _ => by rw [Hm.out]⟩
 have M2 : Shh (∀ W, Calls Try.prog 20 #[.agg (pc p2).toArray, .agg (pc p).toArray] W (PolyIs W m)) := ⟨fun W => Poly_of (Mul_any p2 p hp2 hp W) fun i hi => by rw [Hm.out]; exact mul_comm' p p2 i hi⟩
 have S1 : Shh (∀ W, Calls Try.prog 18 #[.agg (pc s).toArray, .agg (pc p2).toArray] W (PolyIs W ra)) := ⟨fun W => Poly_of (Sub_any s p2 bs hp2 W) fun i _ => by rw [Hs.out, Hra.out]; exact (sub_add' p p2 i).symm⟩
 have R1 : Shh (∀ W, Calls Try.prog 14 #[.agg (pc p).toArray] W (PolyIs W ra)) := ⟨fun W => Poly_of (Reduce_any p hp W) fun i _ => by rw [Hra.out]⟩
 have T1 : Shh (∀ W, Calls Try.prog 16 #[.agg (pc s).toArray, .agg (pc p3).toArray] W (PolyIs W t)) := ⟨fun W => Poly_of (Add_any s p3 bs hp3 W) fun i _ => by rw [Ht.out]⟩
 have U1 : Shh (∀ W, Calls Try.prog 16 #[.agg (pc p2).toArray, .agg (pc p3).toArray] W (PolyIs W u)) := ⟨fun W => Poly_of (Add_any p2 p3 hp2 hp3 W) fun i _ => by rw [Hu.out]⟩
 have T2 : Shh (∀ W, Calls Try.prog 16 #[.agg (pc p).toArray, .agg (pc u).toArray] W (PolyIs W t)) := ⟨fun W => Poly_of (Add_any p u hp bu W) fun i _ => by rw [Ht.out, Hs.out, Hu.out]; exact add_assoc' p p2 p3 i⟩
 have K1 : Shh (∀ W, Calls Try.prog 20 #[.agg (pc m).toArray, .agg (pc p3).toArray] W (PolyIs W k)) := ⟨fun W => Poly_of (Mul_any m p3 bm hp3 W) fun i _ => by rw [Hk.out]⟩
 have N1 : Shh (∀ W, Calls Try.prog 20 #[.agg (pc p2).toArray, .agg (pc p3).toArray] W (PolyIs W n)) := ⟨fun W => Poly_of (Mul_any p2 p3 hp2 hp3 W) fun i _ => by rw [Hn.out]⟩
 have K2 : Shh (∀ W, Calls Try.prog 20 #[.agg (pc p).toArray, .agg (pc n).toArray] W (PolyIs W k)) := ⟨fun W => Poly_of (Mul_any p n hp bn W) fun i hi => by rw [Hk.out, Hm.out, Hn.out]; exact mul_assoc' p p2 p3 i hi⟩
 have Z1 : Shh (∀ W, Calls Try.prog 20 #[.agg (pc p).toArray, .agg (pc u).toArray] W (PolyIs W z)) := ⟨fun W => Poly_of (Mul_any p u hp bu W) fun i _ => by rw [Hz.out]⟩
 have O1 : Shh (∀ W, Calls Try.prog 20 #[.agg (pc p).toArray, .agg (pc p3).toArray] W (PolyIs W o)) := ⟨fun W => Poly_of (Mul_any p p3 hp hp3 W) fun i _ => by rw [Ho.out]⟩
 have Z2 : Shh (∀ W, Calls Try.prog 16 #[.agg (pc m).toArray, .agg (pc o).toArray] W (PolyIs W z)) := ⟨fun W => Poly_of (Add_any m o bm bo W) fun i hi => by rw [Hz.out, Hm.out, Ho.out, Hu.out]; exact mul_add' p p2 p3 i hi⟩
 have E1 : Shh (∀ W, Calls Try.prog 20 #[.agg (pc p).toArray, .agg (pc e1P).toArray] W (PolyIs W ra)) := ⟨fun W => Poly_of (Mul_any p e1P hp e1_lt W) fun i hi => by rw [Hra.out]; exact (mul_one' p i hi).symm⟩
 have Es : Shh (∀ W, (Op.equalIn 10000 24 (.agg (pc s).toArray) (.agg (pc s).toArray)).run Try.prog W = .ok true W) := ⟨fun W => eq_poly _ (by rw [Hs.out]; exact fun i hi => rd_16 _) W⟩
 have Em : Shh (∀ W, (Op.equalIn 10000 24 (.agg (pc m).toArray) (.agg (pc m).toArray)).run Try.prog W = .ok true W) := ⟨fun W => eq_poly _ (by rw [Hm.out]; exact fun i hi => rd_16 _) W⟩
 have Era : Shh (∀ W, (Op.equalIn 10000 24 (.agg (pc ra).toArray) (.agg (pc ra).toArray)).run Try.prog W = .ok true W) := ⟨fun W => eq_poly _ (by rw [Hra.out]; exact fun i hi => rd_16 _) W⟩
 have Et : Shh (∀ W, (Op.equalIn 10000 24 (.agg (pc t).toArray) (.agg (pc t).toArray)).run Try.prog W = .ok true W) := ⟨fun W => eq_poly _ (by rw [Ht.out]; exact fun i hi => rd_16 _) W⟩
 have Ek : Shh (∀ W, (Op.equalIn 10000 24 (.agg (pc k).toArray) (.agg (pc k).toArray)).run Try.prog W = .ok true W) := ⟨fun W => eq_poly _ (by rw [Hk.out]; exact fun i hi => rd_16 _) W⟩
 have Ez : Shh (∀ W, (Op.equalIn 10000 24 (.agg (pc z).toArray) (.agg (pc z).toArray)).run Try.prog W = .ok true W) := ⟨fun W => eq_poly _ (by rw [Hz.out]; exact fun i hi => rd_16 _) W⟩
 clear bM bA bs bm bu bn bo Hz Ho Hn Hk Hu Ht Hra Hm Hs
 unfold polyV
 generalize hN : w.heap.size = N at *
 clear hp hp2 hp3
 obtain ⟨W, hW⟩ : ∃ W, W = ((w.alloc (.cells (pc p).toArray 24)).alloc (.cells (pc p2).toArray 24)).alloc (.cells (pc p3).toArray 24) := ⟨_, rfl⟩
 have HW : Shh ((Row W N 24 (pc p) ∧ Row W (N + 1) 24 (pc p2) ∧ Row W (N + 2) 24 (pc p3)) ∧ Below N w W) := by
  refine ⟨⟨by rw [hW]; exact ((Row.new_ hN.symm rfl).alloc _).alloc _, by rw [hW]; exact (Row.new_ (by rw [asz, hN]) rfl).alloc _, by rw [hW]; exact Row.new_ (by rw [asz, asz, hN]) rfl⟩, ?_⟩
  rw [hW, ← hN]
  exact Below.chain (Below.chain (bel1 _ _) (bel1 _ _)) (bel1 _ _)
 go_enter Try.func11, Try.ntmps11
 go_wp2
 try simp only [asz, hN]
 rw [← hW]
 clear hW
 refine wp_region_held_drew (S := fun w' => Row w' N 24 (pc p) ∧ Row w' (N + 1) 24 (pc p2) ∧ Row w' (N + 2) 24 (pc p3)) (by kernel_rfl) ⟨HW.out.1.1.drew, HW.out.1.2.1.drew, HW.out.1.2.2.drew⟩ (fun hS => ?_)
 clear hS
 obtain ⟨U, hU⟩ : ∃ V, V = World.drew W := ⟨_, rfl⟩
 rw [← hU]
 have q0 : Row U N 24 (pc p) := by rw [hU]; exact HW.out.1.1.drew
 have q1 : Row U (N + 1) 24 (pc p2) := by rw [hU]; exact HW.out.1.2.1.drew
 have q2 : Row U (N + 2) 24 (pc p3) := by rw [hU]; exact HW.out.1.2.2.drew
 have bN : Below N w U := by rw [hU]; exact HW.out.2.drew
 clear HW hU
 refine held_one 0 (by kernel_rfl) ?_
 refine step_call 0 _ _ (some 7) 13 #[] (by rfl) (by kernel_rfl) (by first | kernel_rfl | go_simp) ?_
 refine (HLV.out U).mono ?_
 rintro e Y1 ⟨rfl, b1⟩
 have bx : Below U.heap.size U Y1 := b1
 clear b1
 have b_U := bx
 have m_Y1 : U.heap.size ≤ Y1.heap.size := bx.size
 clear bx
 refine ⟨_, rfl, ⟨(q0.go b_U), (q1.go b_U), (q2.go b_U)⟩, ?_⟩
 simp only [Act.put, arr9, hd9, tl9]
 refine hdv0 1 8 (.bool false) (by rfl) (⟨(q0.go b_U), (q1.go b_U), (q2.go b_U)⟩) ?_
 refine hdv0 2 9 (.bool false) (by rfl) (⟨(q0.go b_U), (q1.go b_U), (q2.go b_U)⟩) ?_
 refine held_load 3 24 (.tmp 3) (some 10) (by kernel_rfl) (by rfl) (by kernel_rfl) N 0 (by kernel_rfl) (pc p) _ (fun w h => h.1.range) Try.underlying24 rfl (info_poly.trans (size_poly _)) (fun _ _ _ _ h => h) (⟨(q0.go b_U), (q1.go b_U), (q2.go b_U)⟩) ?_
 simp only [Act.put, arr9, hd9, tl9]
 refine held_load 4 24 (.tmp 4) (some 11) (by kernel_rfl) (by rfl) (by kernel_rfl) (N + 1) 0 (by kernel_rfl) (pc p2) _ (fun w h => h.2.1.range) Try.underlying24 rfl (info_poly.trans (size_poly _)) (fun _ _ _ _ h => h) (⟨(q0.go b_U), (q1.go b_U), (q2.go b_U)⟩) ?_
 simp only [Act.put, arr9, hd9, tl9]
 refine held_load 6 24 (.tmp 4) (some 13) (by kernel_rfl) (by rfl) (by kernel_rfl) (N + 1) 0 (by kernel_rfl) (pc p2) _ (fun w h => h.2.1.range) Try.underlying24 rfl (info_poly.trans (size_poly _)) (fun _ _ _ _ h => h) (⟨(q0.go b_U), (q1.go b_U), (q2.go b_U)⟩) ?_
 simp only [Act.put, arr9, hd9, tl9]
 refine held_load 7 24 (.tmp 3) (some 14) (by kernel_rfl) (by rfl) (by kernel_rfl) N 0 (by kernel_rfl) (pc p) _ (fun w h => h.1.range) Try.underlying24 rfl (info_poly.trans (size_poly _)) (fun _ _ _ _ h => h) (⟨(q0.go b_U), (q1.go b_U), (q2.go b_U)⟩) ?_
 simp only [Act.put, arr9, hd9, tl9]
 refine held_one 5 (by kernel_rfl) ?_
 refine step_call 5 _ _ (some 12) 16 #[.agg (pc p).toArray, .agg (pc p2).toArray] (by rfl) (by kernel_rfl) (by first | kernel_rfl | go_simp) ?_
 refine (A1.out Y1).mono ?_
 rintro e Y2 ⟨rfl, b1⟩
 have bx : Below Y1.heap.size Y1 Y2 := b1
 clear b1
 replace b_U := Below.chain b_U bx
 have b_Y1 := bx
 have m_Y2 : Y1.heap.size ≤ Y2.heap.size := bx.size
 clear bx
 refine ⟨_, rfl, ⟨(q0.go b_U), (q1.go b_U), (q2.go b_U)⟩, ?_⟩
 simp only [Act.put, arr9, hd9, tl9]
 refine held_one 8 (by kernel_rfl) ?_
 refine step_call 8 _ _ (some 15) 16 #[.agg (pc p2).toArray, .agg (pc p).toArray] (by rfl) (by kernel_rfl) (by first | kernel_rfl | go_simp) ?_
 refine (A2.out Y2).mono ?_
 rintro e Y3 ⟨rfl, b1⟩
 have bx : Below Y2.heap.size Y2 Y3 := b1
 clear b1
 replace b_U := Below.chain b_U bx
 replace b_Y1 := Below.chain b_Y1 bx
 have b_Y2 := bx
 have m_Y3 : Y2.heap.size ≤ Y3.heap.size := bx.size
 clear bx
 refine ⟨_, rfl, ⟨(q0.go b_U), (q1.go b_U), (q2.go b_U)⟩, ?_⟩
 simp only [Act.put, arr9, hd9, tl9]
 refine hdv 9 16 (.bool false) (by rfl) (fun w hS => run_neq_same (by kernel_rfl) (Es.out w) (by kernel_rfl) (by kernel_rfl)) (⟨(q0.go b_U), (q1.go b_U), (q2.go b_U)⟩) ?_
 refine hdv0 10 17 (.bool false) (by rfl) (⟨(q0.go b_U), (q1.go b_U), (q2.go b_U)⟩) ?_
 refine hdv0 11 18 (.bool false) (by rfl) (⟨(q0.go b_U), (q1.go b_U), (q2.go b_U)⟩) ?_
 refine held_load 12 24 (.tmp 3) (some 19) (by kernel_rfl) (by rfl) (by kernel_rfl) N 0 (by kernel_rfl) (pc p) _ (fun w h => h.1.range) Try.underlying24 rfl (info_poly.trans (size_poly _)) (fun _ _ _ _ h => h) (⟨(q0.go b_U), (q1.go b_U), (q2.go b_U)⟩) ?_
 simp only [Act.put, arr9, hd9, tl9]
 refine held_load 13 24 (.tmp 4) (some 20) (by kernel_rfl) (by rfl) (by kernel_rfl) (N + 1) 0 (by kernel_rfl) (pc p2) _ (fun w h => h.2.1.range) Try.underlying24 rfl (info_poly.trans (size_poly _)) (fun _ _ _ _ h => h) (⟨(q0.go b_U), (q1.go b_U), (q2.go b_U)⟩) ?_
 simp only [Act.put, arr9, hd9, tl9]
 refine held_load 15 24 (.tmp 4) (some 22) (by kernel_rfl) (by rfl) (by kernel_rfl) (N + 1) 0 (by kernel_rfl) (pc p2) _ (fun w h => h.2.1.range) Try.underlying24 rfl (info_poly.trans (size_poly _)) (fun _ _ _ _ h => h) (⟨(q0.go b_U), (q1.go b_U), (q2.go b_U)⟩) ?_
 simp only [Act.put, arr9, hd9, tl9]
 refine held_load 16 24 (.tmp 3) (some 23) (by kernel_rfl) (by rfl) (by kernel_rfl) N 0 (by kernel_rfl) (pc p) _ (fun w h => h.1.range) Try.underlying24 rfl (info_poly.trans (size_poly _)) (fun _ _ _ _ h => h) (⟨(q0.go b_U), (q1.go b_U), (q2.go b_U)⟩) ?_
 simp only [Act.put, arr9, hd9, tl9]
 refine held_one 14 (by kernel_rfl) ?_
 refine step_call 14 _ _ (some 21) 20 #[.agg (pc p).toArray, .agg (pc p2).toArray] (by rfl) (by kernel_rfl) (by first | kernel_rfl | go_simp) ?_
 refine (M1.out Y3).mono ?_
 rintro e Y4 ⟨rfl, b1⟩
 have bx : Below Y3.heap.size Y3 Y4 := b1
 clear b1
 replace b_U := Below.chain b_U bx
 replace b_Y1 := Below.chain b_Y1 bx
 replace b_Y2 := Below.chain b_Y2 bx
 have b_Y3 := bx
 have m_Y4 : Y3.heap.size ≤ Y4.heap.size := bx.size
 clear bx
 refine ⟨_, rfl, ⟨(q0.go b_U), (q1.go b_U), (q2.go b_U)⟩, ?_⟩
 simp only [Act.put, arr9, hd9, tl9]
 refine held_one 17 (by kernel_rfl) ?_
 refine step_call 17 _ _ (some 24) 20 #[.agg (pc p2).toArray, .agg (pc p).toArray] (by rfl) (by kernel_rfl) (by first | kernel_rfl | go_simp) ?_
 refine (M2.out Y4).mono ?_
 rintro e Y5 ⟨rfl, b1⟩
 have bx : Below Y4.heap.size Y4 Y5 := b1
 clear b1
 replace b_U := Below.chain b_U bx
 replace b_Y1 := Below.chain b_Y1 bx
 replace b_Y2 := Below.chain b_Y2 bx
 replace b_Y3 := Below.chain b_Y3 bx
 have b_Y4 := bx
 have m_Y5 : Y4.heap.size ≤ Y5.heap.size := bx.size
 clear bx
 refine ⟨_, rfl, ⟨(q0.go b_U), (q1.go b_U), (q2.go b_U)⟩, ?_⟩
 simp only [Act.put, arr9, hd9, tl9]
 refine hdv 18 25 (.bool false) (by rfl) (fun w hS => run_neq_same (by kernel_rfl) (Em.out w) (by kernel_rfl) (by kernel_rfl)) (⟨(q0.go b_U), (q1.go b_U), (q2.go b_U)⟩) ?_
 refine hdv0 19 26 (.bool false) (by rfl) (⟨(q0.go b_U), (q1.go b_U), (q2.go b_U)⟩) ?_
 refine hdv0 20 27 (.bool false) (by rfl) (⟨(q0.go b_U), (q1.go b_U), (q2.go b_U)⟩) ?_
 refine held_load 21 24 (.tmp 3) (some 28) (by kernel_rfl) (by rfl) (by kernel_rfl) N 0 (by kernel_rfl) (pc p) _ (fun w h => h.1.range) Try.underlying24 rfl (info_poly.trans (size_poly _)) (fun _ _ _ _ h => h) (⟨(q0.go b_U), (q1.go b_U), (q2.go b_U)⟩) ?_
 simp only [Act.put, arr9, hd9, tl9]
 refine held_load 22 24 (.tmp 4) (some 29) (by kernel_rfl) (by rfl) (by kernel_rfl) (N + 1) 0 (by kernel_rfl) (pc p2) _ (fun w h => h.2.1.range) Try.underlying24 rfl (info_poly.trans (size_poly _)) (fun _ _ _ _ h => h) (⟨(q0.go b_U), (q1.go b_U), (q2.go b_U)⟩) ?_
 simp only [Act.put, arr9, hd9, tl9]
 refine held_load 24 24 (.tmp 4) (some 31) (by kernel_rfl) (by rfl) (by kernel_rfl) (N + 1) 0 (by kernel_rfl) (pc p2) _ (fun w h => h.2.1.range) Try.underlying24 rfl (info_poly.trans (size_poly _)) (fun _ _ _ _ h => h) (⟨(q0.go b_U), (q1.go b_U), (q2.go b_U)⟩) ?_
 simp only [Act.put, arr9, hd9, tl9]
 refine held_load 26 24 (.tmp 3) (some 33) (by kernel_rfl) (by rfl) (by kernel_rfl) N 0 (by kernel_rfl) (pc p) _ (fun w h => h.1.range) Try.underlying24 rfl (info_poly.trans (size_poly _)) (fun _ _ _ _ h => h) (⟨(q0.go b_U), (q1.go b_U), (q2.go b_U)⟩) ?_
 simp only [Act.put, arr9, hd9, tl9]
 refine held_one 23 (by kernel_rfl) ?_
 refine step_call 23 _ _ (some 30) 16 #[.agg (pc p).toArray, .agg (pc p2).toArray] (by rfl) (by kernel_rfl) (by first | kernel_rfl | go_simp) ?_
 refine (A1.out Y5).mono ?_
 rintro e Y6 ⟨rfl, b1⟩
 have bx : Below Y5.heap.size Y5 Y6 := b1
 clear b1
 replace b_U := Below.chain b_U bx
 replace b_Y1 := Below.chain b_Y1 bx
 replace b_Y2 := Below.chain b_Y2 bx
 replace b_Y3 := Below.chain b_Y3 bx
 replace b_Y4 := Below.chain b_Y4 bx
 have b_Y5 := bx
 have m_Y6 : Y5.heap.size ≤ Y6.heap.size := bx.size
 clear bx
 refine ⟨_, rfl, ⟨(q0.go b_U), (q1.go b_U), (q2.go b_U)⟩, ?_⟩
 simp only [Act.put, arr9, hd9, tl9]
 refine held_one 25 (by kernel_rfl) ?_
 refine step_call 25 _ _ (some 32) 18 #[.agg (pc s).toArray, .agg (pc p2).toArray] (by rfl) (by kernel_rfl) (by first | kernel_rfl | go_simp) ?_
 refine (S1.out Y6).mono ?_
 rintro e Y7 ⟨rfl, b1⟩
 have bx : Below Y6.heap.size Y6 Y7 := b1
 clear b1
 replace b_U := Below.chain b_U bx
 replace b_Y1 := Below.chain b_Y1 bx
 replace b_Y2 := Below.chain b_Y2 bx
 replace b_Y3 := Below.chain b_Y3 bx
 replace b_Y4 := Below.chain b_Y4 bx
 replace b_Y5 := Below.chain b_Y5 bx
 have b_Y6 := bx
 have m_Y7 : Y6.heap.size ≤ Y7.heap.size := bx.size
 clear bx
 refine ⟨_, rfl, ⟨(q0.go b_U), (q1.go b_U), (q2.go b_U)⟩, ?_⟩
 simp only [Act.put, arr9, hd9, tl9]
 refine held_one 27 (by kernel_rfl) ?_
 refine step_call 27 _ _ (some 34) 14 #[.agg (pc p).toArray] (by rfl) (by kernel_rfl) (by first | kernel_rfl | go_simp) ?_
 refine (R1.out Y7).mono ?_
 rintro e Y8 ⟨rfl, b1⟩
 have bx : Below Y7.heap.size Y7 Y8 := b1
 clear b1
 replace b_U := Below.chain b_U bx
 replace b_Y1 := Below.chain b_Y1 bx
 replace b_Y2 := Below.chain b_Y2 bx
 replace b_Y3 := Below.chain b_Y3 bx
 replace b_Y4 := Below.chain b_Y4 bx
 replace b_Y5 := Below.chain b_Y5 bx
 replace b_Y6 := Below.chain b_Y6 bx
 have b_Y7 := bx
 have m_Y8 : Y7.heap.size ≤ Y8.heap.size := bx.size
 clear bx
 refine ⟨_, rfl, ⟨(q0.go b_U), (q1.go b_U), (q2.go b_U)⟩, ?_⟩
 simp only [Act.put, arr9, hd9, tl9]
 refine hdv 28 35 (.bool false) (by rfl) (fun w hS => run_neq_same (by kernel_rfl) (Era.out w) (by kernel_rfl) (by kernel_rfl)) (⟨(q0.go b_U), (q1.go b_U), (q2.go b_U)⟩) ?_
 refine hdv0 29 36 (.bool false) (by rfl) (⟨(q0.go b_U), (q1.go b_U), (q2.go b_U)⟩) ?_
 refine wpAnyH_done (by kernel_rfl) ?_ _
 have HZ : Shh ((Row Y8 N 24 (pc p) ∧ Row Y8 (N + 1) 24 (pc p2) ∧ Row Y8 (N + 2) 24 (pc p3)) ∧ Below N w Y8) := ⟨⟨(q0.go b_U), (q1.go b_U), (q2.go b_U)⟩, bN.trans (b_U.mono (by have := q1.lt; omega))⟩
 clear m_Y8 b_Y7 m_Y7 b_Y6 m_Y6 b_Y5 m_Y5 b_Y4 m_Y4 b_Y3 m_Y3 b_Y2 m_Y2 b_Y1 m_Y1 b_U bN q0 q1 q2
 go_wp2
 refine wp_region_held_drew (S := fun w' => Row w' N 24 (pc p) ∧ Row w' (N + 1) 24 (pc p2) ∧ Row w' (N + 2) 24 (pc p3)) (by kernel_rfl) ⟨HZ.out.1.1.drew, HZ.out.1.2.1.drew, HZ.out.1.2.2.drew⟩ (fun hS => ?_)
 clear hS
 obtain ⟨U2, hU⟩ : ∃ V, V = World.drew Y8 := ⟨_, rfl⟩
 rw [← hU]
 have q0 : Row U2 N 24 (pc p) := by rw [hU]; exact HZ.out.1.1.drew
 have q1 : Row U2 (N + 1) 24 (pc p2) := by rw [hU]; exact HZ.out.1.2.1.drew
 have q2 : Row U2 (N + 2) 24 (pc p3) := by rw [hU]; exact HZ.out.1.2.2.drew
 have bN : Below N w U2 := by rw [hU]; exact HZ.out.2.drew
 clear HZ hU
 refine held_load 0 24 (.tmp 3) (some 37) (by kernel_rfl) (by rfl) (by kernel_rfl) N 0 (by kernel_rfl) (pc p) _ (fun w h => h.1.range) Try.underlying24 rfl (info_poly.trans (size_poly _)) (fun _ _ _ _ h => h) (⟨q0, q1, q2⟩) ?_
 simp only [Act.put, arr9, hd9, tl9]
 refine held_load 1 24 (.tmp 4) (some 38) (by kernel_rfl) (by rfl) (by kernel_rfl) (N + 1) 0 (by kernel_rfl) (pc p2) _ (fun w h => h.2.1.range) Try.underlying24 rfl (info_poly.trans (size_poly _)) (fun _ _ _ _ h => h) (⟨q0, q1, q2⟩) ?_
 simp only [Act.put, arr9, hd9, tl9]
 refine held_load 3 24 (.tmp 5) (some 40) (by kernel_rfl) (by rfl) (by kernel_rfl) (N + 2) 0 (by kernel_rfl) (pc p3) _ (fun w h => h.2.2.range) Try.underlying24 rfl (info_poly.trans (size_poly _)) (fun _ _ _ _ h => h) (⟨q0, q1, q2⟩) ?_
 simp only [Act.put, arr9, hd9, tl9]
 refine held_load 5 24 (.tmp 3) (some 42) (by kernel_rfl) (by rfl) (by kernel_rfl) N 0 (by kernel_rfl) (pc p) _ (fun w h => h.1.range) Try.underlying24 rfl (info_poly.trans (size_poly _)) (fun _ _ _ _ h => h) (⟨q0, q1, q2⟩) ?_
 simp only [Act.put, arr9, hd9, tl9]
 refine held_load 6 24 (.tmp 4) (some 43) (by kernel_rfl) (by rfl) (by kernel_rfl) (N + 1) 0 (by kernel_rfl) (pc p2) _ (fun w h => h.2.1.range) Try.underlying24 rfl (info_poly.trans (size_poly _)) (fun _ _ _ _ h => h) (⟨q0, q1, q2⟩) ?_
 simp only [Act.put, arr9, hd9, tl9]
 refine held_load 7 24 (.tmp 5) (some 44) (by kernel_rfl) (by rfl) (by kernel_rfl) (N + 2) 0 (by kernel_rfl) (pc p3) _ (fun w h => h.2.2.range) Try.underlying24 rfl (info_poly.trans (size_poly _)) (fun _ _ _ _ h => h) (⟨q0, q1, q2⟩) ?_
 simp only [Act.put, arr9, hd9, tl9]
 refine held_one 2 (by kernel_rfl) ?_
 refine step_call 2 _ _ (some 39) 16 #[.agg (pc p).toArray, .agg (pc p2).toArray] (by rfl) (by kernel_rfl) (by first | kernel_rfl | go_simp) ?_
 refine (A1.out U2).mono ?_
 rintro e Y1 ⟨rfl, b1⟩
 have bx : Below U2.heap.size U2 Y1 := b1
 clear b1
 have b_U2 := bx
 have m_Y1 : U2.heap.size ≤ Y1.heap.size := bx.size
 clear bx
 refine ⟨_, rfl, ⟨(q0.go b_U2), (q1.go b_U2), (q2.go b_U2)⟩, ?_⟩
 simp only [Act.put, arr9, hd9, tl9]
 refine held_one 4 (by kernel_rfl) ?_
 refine step_call 4 _ _ (some 41) 16 #[.agg (pc s).toArray, .agg (pc p3).toArray] (by rfl) (by kernel_rfl) (by first | kernel_rfl | go_simp) ?_
 refine (T1.out Y1).mono ?_
 rintro e Y2 ⟨rfl, b1⟩
 have bx : Below Y1.heap.size Y1 Y2 := b1
 clear b1
 replace b_U2 := Below.chain b_U2 bx
 have b_Y1 := bx
 have m_Y2 : Y1.heap.size ≤ Y2.heap.size := bx.size
 clear bx
 refine ⟨_, rfl, ⟨(q0.go b_U2), (q1.go b_U2), (q2.go b_U2)⟩, ?_⟩
 simp only [Act.put, arr9, hd9, tl9]
 refine held_one 8 (by kernel_rfl) ?_
 refine step_call 8 _ _ (some 45) 16 #[.agg (pc p2).toArray, .agg (pc p3).toArray] (by rfl) (by kernel_rfl) (by first | kernel_rfl | go_simp) ?_
 refine (U1.out Y2).mono ?_
 rintro e Y3 ⟨rfl, b1⟩
 have bx : Below Y2.heap.size Y2 Y3 := b1
 clear b1
 replace b_U2 := Below.chain b_U2 bx
 replace b_Y1 := Below.chain b_Y1 bx
 have b_Y2 := bx
 have m_Y3 : Y2.heap.size ≤ Y3.heap.size := bx.size
 clear bx
 refine ⟨_, rfl, ⟨(q0.go b_U2), (q1.go b_U2), (q2.go b_U2)⟩, ?_⟩
 simp only [Act.put, arr9, hd9, tl9]
 refine held_one 9 (by kernel_rfl) ?_
 refine step_call 9 _ _ (some 46) 16 #[.agg (pc p).toArray, .agg (pc u).toArray] (by rfl) (by kernel_rfl) (by first | kernel_rfl | go_simp) ?_
 refine (T2.out Y3).mono ?_
 rintro e Y4 ⟨rfl, b1⟩
 have bx : Below Y3.heap.size Y3 Y4 := b1
 clear b1
 replace b_U2 := Below.chain b_U2 bx
 replace b_Y1 := Below.chain b_Y1 bx
 replace b_Y2 := Below.chain b_Y2 bx
 have b_Y3 := bx
 have m_Y4 : Y3.heap.size ≤ Y4.heap.size := bx.size
 clear bx
 refine ⟨_, rfl, ⟨(q0.go b_U2), (q1.go b_U2), (q2.go b_U2)⟩, ?_⟩
 simp only [Act.put, arr9, hd9, tl9]
 refine hdv 10 47 (.bool true) (by rfl) (fun w hS => run_eql_agg (by kernel_rfl) (Et.out w) (by kernel_rfl) (by kernel_rfl)) (⟨(q0.go b_U2), (q1.go b_U2), (q2.go b_U2)⟩) ?_
 refine hdv0 11 48 (.bool true) (by rfl) (⟨(q0.go b_U2), (q1.go b_U2), (q2.go b_U2)⟩) ?_
 refine held_load 12 24 (.tmp 3) (some 49) (by kernel_rfl) (by rfl) (by kernel_rfl) N 0 (by kernel_rfl) (pc p) _ (fun w h => h.1.range) Try.underlying24 rfl (info_poly.trans (size_poly _)) (fun _ _ _ _ h => h) (⟨(q0.go b_U2), (q1.go b_U2), (q2.go b_U2)⟩) ?_
 simp only [Act.put, arr9, hd9, tl9]
 refine held_load 13 24 (.tmp 4) (some 50) (by kernel_rfl) (by rfl) (by kernel_rfl) (N + 1) 0 (by kernel_rfl) (pc p2) _ (fun w h => h.2.1.range) Try.underlying24 rfl (info_poly.trans (size_poly _)) (fun _ _ _ _ h => h) (⟨(q0.go b_U2), (q1.go b_U2), (q2.go b_U2)⟩) ?_
 simp only [Act.put, arr9, hd9, tl9]
 refine held_load 15 24 (.tmp 5) (some 52) (by kernel_rfl) (by rfl) (by kernel_rfl) (N + 2) 0 (by kernel_rfl) (pc p3) _ (fun w h => h.2.2.range) Try.underlying24 rfl (info_poly.trans (size_poly _)) (fun _ _ _ _ h => h) (⟨(q0.go b_U2), (q1.go b_U2), (q2.go b_U2)⟩) ?_
 simp only [Act.put, arr9, hd9, tl9]
 refine held_load 17 24 (.tmp 3) (some 54) (by kernel_rfl) (by rfl) (by kernel_rfl) N 0 (by kernel_rfl) (pc p) _ (fun w h => h.1.range) Try.underlying24 rfl (info_poly.trans (size_poly _)) (fun _ _ _ _ h => h) (⟨(q0.go b_U2), (q1.go b_U2), (q2.go b_U2)⟩) ?_
 simp only [Act.put, arr9, hd9, tl9]
 refine held_load 18 24 (.tmp 4) (some 55) (by kernel_rfl) (by rfl) (by kernel_rfl) (N + 1) 0 (by kernel_rfl) (pc p2) _ (fun w h => h.2.1.range) Try.underlying24 rfl (info_poly.trans (size_poly _)) (fun _ _ _ _ h => h) (⟨(q0.go b_U2), (q1.go b_U2), (q2.go b_U2)⟩) ?_
 simp only [Act.put, arr9, hd9, tl9]
 refine held_load 19 24 (.tmp 5) (some 56) (by kernel_rfl) (by rfl) (by kernel_rfl) (N + 2) 0 (by kernel_rfl) (pc p3) _ (fun w h => h.2.2.range) Try.underlying24 rfl (info_poly.trans (size_poly _)) (fun _ _ _ _ h => h) (⟨(q0.go b_U2), (q1.go b_U2), (q2.go b_U2)⟩) ?_
 simp only [Act.put, arr9, hd9, tl9]
 refine held_one 14 (by kernel_rfl) ?_
 refine step_call 14 _ _ (some 51) 20 #[.agg (pc p).toArray, .agg (pc p2).toArray] (by rfl) (by kernel_rfl) (by first | kernel_rfl | go_simp) ?_
 refine (M1.out Y4).mono ?_
 rintro e Y5 ⟨rfl, b1⟩
 have bx : Below Y4.heap.size Y4 Y5 := b1
 clear b1
 replace b_U2 := Below.chain b_U2 bx
 replace b_Y1 := Below.chain b_Y1 bx
 replace b_Y2 := Below.chain b_Y2 bx
 replace b_Y3 := Below.chain b_Y3 bx
 have b_Y4 := bx
 have m_Y5 : Y4.heap.size ≤ Y5.heap.size := bx.size
 clear bx
 refine ⟨_, rfl, ⟨(q0.go b_U2), (q1.go b_U2), (q2.go b_U2)⟩, ?_⟩
 simp only [Act.put, arr9, hd9, tl9]
 refine held_one 16 (by kernel_rfl) ?_
 refine step_call 16 _ _ (some 53) 20 #[.agg (pc m).toArray, .agg (pc p3).toArray] (by rfl) (by kernel_rfl) (by first | kernel_rfl | go_simp) ?_
 refine (K1.out Y5).mono ?_
 rintro e Y6 ⟨rfl, b1⟩
 have bx : Below Y5.heap.size Y5 Y6 := b1
 clear b1
 replace b_U2 := Below.chain b_U2 bx
 replace b_Y1 := Below.chain b_Y1 bx
 replace b_Y2 := Below.chain b_Y2 bx
 replace b_Y3 := Below.chain b_Y3 bx
 replace b_Y4 := Below.chain b_Y4 bx
 have b_Y5 := bx
 have m_Y6 : Y5.heap.size ≤ Y6.heap.size := bx.size
 clear bx
 refine ⟨_, rfl, ⟨(q0.go b_U2), (q1.go b_U2), (q2.go b_U2)⟩, ?_⟩
 simp only [Act.put, arr9, hd9, tl9]
 refine held_one 20 (by kernel_rfl) ?_
 refine step_call 20 _ _ (some 57) 20 #[.agg (pc p2).toArray, .agg (pc p3).toArray] (by rfl) (by kernel_rfl) (by first | kernel_rfl | go_simp) ?_
 refine (N1.out Y6).mono ?_
 rintro e Y7 ⟨rfl, b1⟩
 have bx : Below Y6.heap.size Y6 Y7 := b1
 clear b1
 replace b_U2 := Below.chain b_U2 bx
 replace b_Y1 := Below.chain b_Y1 bx
 replace b_Y2 := Below.chain b_Y2 bx
 replace b_Y3 := Below.chain b_Y3 bx
 replace b_Y4 := Below.chain b_Y4 bx
 replace b_Y5 := Below.chain b_Y5 bx
 have b_Y6 := bx
 have m_Y7 : Y6.heap.size ≤ Y7.heap.size := bx.size
 clear bx
 refine ⟨_, rfl, ⟨(q0.go b_U2), (q1.go b_U2), (q2.go b_U2)⟩, ?_⟩
 simp only [Act.put, arr9, hd9, tl9]
 refine held_one 21 (by kernel_rfl) ?_
 refine step_call 21 _ _ (some 58) 20 #[.agg (pc p).toArray, .agg (pc n).toArray] (by rfl) (by kernel_rfl) (by first | kernel_rfl | go_simp) ?_
 refine (K2.out Y7).mono ?_
 rintro e Y8 ⟨rfl, b1⟩
 have bx : Below Y7.heap.size Y7 Y8 := b1
 clear b1
 replace b_U2 := Below.chain b_U2 bx
 replace b_Y1 := Below.chain b_Y1 bx
 replace b_Y2 := Below.chain b_Y2 bx
 replace b_Y3 := Below.chain b_Y3 bx
 replace b_Y4 := Below.chain b_Y4 bx
 replace b_Y5 := Below.chain b_Y5 bx
 replace b_Y6 := Below.chain b_Y6 bx
 have b_Y7 := bx
 have m_Y8 : Y7.heap.size ≤ Y8.heap.size := bx.size
 clear bx
 refine ⟨_, rfl, ⟨(q0.go b_U2), (q1.go b_U2), (q2.go b_U2)⟩, ?_⟩
 simp only [Act.put, arr9, hd9, tl9]
 refine hdv 22 59 (.bool true) (by rfl) (fun w hS => run_eql_agg (by kernel_rfl) (Ek.out w) (by kernel_rfl) (by kernel_rfl)) (⟨(q0.go b_U2), (q1.go b_U2), (q2.go b_U2)⟩) ?_
 refine hdv0 23 60 (.bool true) (by rfl) (⟨(q0.go b_U2), (q1.go b_U2), (q2.go b_U2)⟩) ?_
 refine hdv0 24 61 (.bool true) (by rfl) (⟨(q0.go b_U2), (q1.go b_U2), (q2.go b_U2)⟩) ?_
 refine held_load 25 24 (.tmp 3) (some 62) (by kernel_rfl) (by rfl) (by kernel_rfl) N 0 (by kernel_rfl) (pc p) _ (fun w h => h.1.range) Try.underlying24 rfl (info_poly.trans (size_poly _)) (fun _ _ _ _ h => h) (⟨(q0.go b_U2), (q1.go b_U2), (q2.go b_U2)⟩) ?_
 simp only [Act.put, arr9, hd9, tl9]
 refine held_load 26 24 (.tmp 4) (some 63) (by kernel_rfl) (by rfl) (by kernel_rfl) (N + 1) 0 (by kernel_rfl) (pc p2) _ (fun w h => h.2.1.range) Try.underlying24 rfl (info_poly.trans (size_poly _)) (fun _ _ _ _ h => h) (⟨(q0.go b_U2), (q1.go b_U2), (q2.go b_U2)⟩) ?_
 simp only [Act.put, arr9, hd9, tl9]
 refine held_load 27 24 (.tmp 5) (some 64) (by kernel_rfl) (by rfl) (by kernel_rfl) (N + 2) 0 (by kernel_rfl) (pc p3) _ (fun w h => h.2.2.range) Try.underlying24 rfl (info_poly.trans (size_poly _)) (fun _ _ _ _ h => h) (⟨(q0.go b_U2), (q1.go b_U2), (q2.go b_U2)⟩) ?_
 simp only [Act.put, arr9, hd9, tl9]
 refine held_load 30 24 (.tmp 3) (some 67) (by kernel_rfl) (by rfl) (by kernel_rfl) N 0 (by kernel_rfl) (pc p) _ (fun w h => h.1.range) Try.underlying24 rfl (info_poly.trans (size_poly _)) (fun _ _ _ _ h => h) (⟨(q0.go b_U2), (q1.go b_U2), (q2.go b_U2)⟩) ?_
 simp only [Act.put, arr9, hd9, tl9]
 refine held_load 31 24 (.tmp 4) (some 68) (by kernel_rfl) (by rfl) (by kernel_rfl) (N + 1) 0 (by kernel_rfl) (pc p2) _ (fun w h => h.2.1.range) Try.underlying24 rfl (info_poly.trans (size_poly _)) (fun _ _ _ _ h => h) (⟨(q0.go b_U2), (q1.go b_U2), (q2.go b_U2)⟩) ?_
 simp only [Act.put, arr9, hd9, tl9]
 refine held_load 33 24 (.tmp 3) (some 70) (by kernel_rfl) (by rfl) (by kernel_rfl) N 0 (by kernel_rfl) (pc p) _ (fun w h => h.1.range) Try.underlying24 rfl (info_poly.trans (size_poly _)) (fun _ _ _ _ h => h) (⟨(q0.go b_U2), (q1.go b_U2), (q2.go b_U2)⟩) ?_
 simp only [Act.put, arr9, hd9, tl9]
 refine held_load 34 24 (.tmp 5) (some 71) (by kernel_rfl) (by rfl) (by kernel_rfl) (N + 2) 0 (by kernel_rfl) (pc p3) _ (fun w h => h.2.2.range) Try.underlying24 rfl (info_poly.trans (size_poly _)) (fun _ _ _ _ h => h) (⟨(q0.go b_U2), (q1.go b_U2), (q2.go b_U2)⟩) ?_
 simp only [Act.put, arr9, hd9, tl9]
 refine held_one 28 (by kernel_rfl) ?_
 refine step_call 28 _ _ (some 65) 16 #[.agg (pc p2).toArray, .agg (pc p3).toArray] (by rfl) (by kernel_rfl) (by first | kernel_rfl | go_simp) ?_
 refine (U1.out Y8).mono ?_
 rintro e Y9 ⟨rfl, b1⟩
 have bx : Below Y8.heap.size Y8 Y9 := b1
 clear b1
 replace b_U2 := Below.chain b_U2 bx
 replace b_Y1 := Below.chain b_Y1 bx
 replace b_Y2 := Below.chain b_Y2 bx
 replace b_Y3 := Below.chain b_Y3 bx
 replace b_Y4 := Below.chain b_Y4 bx
 replace b_Y5 := Below.chain b_Y5 bx
 replace b_Y6 := Below.chain b_Y6 bx
 replace b_Y7 := Below.chain b_Y7 bx
 have b_Y8 := bx
 have m_Y9 : Y8.heap.size ≤ Y9.heap.size := bx.size
 clear bx
 refine ⟨_, rfl, ⟨(q0.go b_U2), (q1.go b_U2), (q2.go b_U2)⟩, ?_⟩
 simp only [Act.put, arr9, hd9, tl9]
 refine held_one 29 (by kernel_rfl) ?_
 refine step_call 29 _ _ (some 66) 20 #[.agg (pc p).toArray, .agg (pc u).toArray] (by rfl) (by kernel_rfl) (by first | kernel_rfl | go_simp) ?_
 refine (Z1.out Y9).mono ?_
 rintro e Y10 ⟨rfl, b1⟩
 have bx : Below Y9.heap.size Y9 Y10 := b1
 clear b1
 replace b_U2 := Below.chain b_U2 bx
 replace b_Y1 := Below.chain b_Y1 bx
 replace b_Y2 := Below.chain b_Y2 bx
 replace b_Y3 := Below.chain b_Y3 bx
 replace b_Y4 := Below.chain b_Y4 bx
 replace b_Y5 := Below.chain b_Y5 bx
 replace b_Y6 := Below.chain b_Y6 bx
 replace b_Y7 := Below.chain b_Y7 bx
 replace b_Y8 := Below.chain b_Y8 bx
 have b_Y9 := bx
 have m_Y10 : Y9.heap.size ≤ Y10.heap.size := bx.size
 clear bx
 refine ⟨_, rfl, ⟨(q0.go b_U2), (q1.go b_U2), (q2.go b_U2)⟩, ?_⟩
 simp only [Act.put, arr9, hd9, tl9]
 refine held_one 32 (by kernel_rfl) ?_
 refine step_call 32 _ _ (some 69) 20 #[.agg (pc p).toArray, .agg (pc p2).toArray] (by rfl) (by kernel_rfl) (by first | kernel_rfl | go_simp) ?_
 refine (M1.out Y10).mono ?_
 rintro e Y11 ⟨rfl, b1⟩
 have bx : Below Y10.heap.size Y10 Y11 := b1
 clear b1
 replace b_U2 := Below.chain b_U2 bx
 replace b_Y1 := Below.chain b_Y1 bx
 replace b_Y2 := Below.chain b_Y2 bx
 replace b_Y3 := Below.chain b_Y3 bx
 replace b_Y4 := Below.chain b_Y4 bx
 replace b_Y5 := Below.chain b_Y5 bx
 replace b_Y6 := Below.chain b_Y6 bx
 replace b_Y7 := Below.chain b_Y7 bx
 replace b_Y8 := Below.chain b_Y8 bx
 replace b_Y9 := Below.chain b_Y9 bx
 have b_Y10 := bx
 have m_Y11 : Y10.heap.size ≤ Y11.heap.size := bx.size
 clear bx
 refine ⟨_, rfl, ⟨(q0.go b_U2), (q1.go b_U2), (q2.go b_U2)⟩, ?_⟩
 simp only [Act.put, arr9, hd9, tl9]
 refine held_one 35 (by kernel_rfl) ?_
 refine step_call 35 _ _ (some 72) 20 #[.agg (pc p).toArray, .agg (pc p3).toArray] (by rfl) (by kernel_rfl) (by first | kernel_rfl | go_simp) ?_
 refine (O1.out Y11).mono ?_
 rintro e Y12 ⟨rfl, b1⟩
 have bx : Below Y11.heap.size Y11 Y12 := b1
 clear b1
 replace b_U2 := Below.chain b_U2 bx
 replace b_Y1 := Below.chain b_Y1 bx
 replace b_Y2 := Below.chain b_Y2 bx
 replace b_Y3 := Below.chain b_Y3 bx
 replace b_Y4 := Below.chain b_Y4 bx
 replace b_Y5 := Below.chain b_Y5 bx
 replace b_Y6 := Below.chain b_Y6 bx
 replace b_Y7 := Below.chain b_Y7 bx
 replace b_Y8 := Below.chain b_Y8 bx
 replace b_Y9 := Below.chain b_Y9 bx
 replace b_Y10 := Below.chain b_Y10 bx
 have b_Y11 := bx
 have m_Y12 : Y11.heap.size ≤ Y12.heap.size := bx.size
 clear bx
 refine ⟨_, rfl, ⟨(q0.go b_U2), (q1.go b_U2), (q2.go b_U2)⟩, ?_⟩
 simp only [Act.put, arr9, hd9, tl9]
 refine held_one 36 (by kernel_rfl) ?_
 refine step_call 36 _ _ (some 73) 16 #[.agg (pc m).toArray, .agg (pc o).toArray] (by rfl) (by kernel_rfl) (by first | kernel_rfl | go_simp) ?_
 refine (Z2.out Y12).mono ?_
 rintro e Y13 ⟨rfl, b1⟩
 have bx : Below Y12.heap.size Y12 Y13 := b1
 clear b1
 replace b_U2 := Below.chain b_U2 bx
 replace b_Y1 := Below.chain b_Y1 bx
 replace b_Y2 := Below.chain b_Y2 bx
 replace b_Y3 := Below.chain b_Y3 bx
 replace b_Y4 := Below.chain b_Y4 bx
 replace b_Y5 := Below.chain b_Y5 bx
 replace b_Y6 := Below.chain b_Y6 bx
 replace b_Y7 := Below.chain b_Y7 bx
 replace b_Y8 := Below.chain b_Y8 bx
 replace b_Y9 := Below.chain b_Y9 bx
 replace b_Y10 := Below.chain b_Y10 bx
 replace b_Y11 := Below.chain b_Y11 bx
 have b_Y12 := bx
 have m_Y13 : Y12.heap.size ≤ Y13.heap.size := bx.size
 clear bx
 refine ⟨_, rfl, ⟨(q0.go b_U2), (q1.go b_U2), (q2.go b_U2)⟩, ?_⟩
 simp only [Act.put, arr9, hd9, tl9]
 refine hdv 37 74 (.bool true) (by rfl) (fun w hS => run_eql_agg (by kernel_rfl) (Ez.out w) (by kernel_rfl) (by kernel_rfl)) (⟨(q0.go b_U2), (q1.go b_U2), (q2.go b_U2)⟩) ?_
 refine hdv0 38 75 (.bool true) (by rfl) (⟨(q0.go b_U2), (q1.go b_U2), (q2.go b_U2)⟩) ?_
 refine hdv0 39 76 (.bool true) (by rfl) (⟨(q0.go b_U2), (q1.go b_U2), (q2.go b_U2)⟩) ?_
 refine hdv 41 78 (.agg (pc e1P).toArray) (by rfl) (fun w hS => build_e1 rfl) (⟨(q0.go b_U2), (q1.go b_U2), (q2.go b_U2)⟩) ?_
 refine held_load 40 24 (.tmp 3) (some 77) (by kernel_rfl) (by rfl) (by kernel_rfl) N 0 (by kernel_rfl) (pc p) _ (fun w h => h.1.range) Try.underlying24 rfl (info_poly.trans (size_poly _)) (fun _ _ _ _ h => h) (⟨(q0.go b_U2), (q1.go b_U2), (q2.go b_U2)⟩) ?_
 simp only [Act.put, arr9, hd9, tl9]
 refine held_load 43 24 (.tmp 3) (some 80) (by kernel_rfl) (by rfl) (by kernel_rfl) N 0 (by kernel_rfl) (pc p) _ (fun w h => h.1.range) Try.underlying24 rfl (info_poly.trans (size_poly _)) (fun _ _ _ _ h => h) (⟨(q0.go b_U2), (q1.go b_U2), (q2.go b_U2)⟩) ?_
 simp only [Act.put, arr9, hd9, tl9]
 refine held_one 42 (by kernel_rfl) ?_
 refine step_call 42 _ _ (some 79) 20 #[.agg (pc p).toArray, .agg (pc e1P).toArray] (by rfl) (by kernel_rfl) (by first | kernel_rfl | go_simp) ?_
 refine (E1.out Y13).mono ?_
 rintro e Y14 ⟨rfl, b1⟩
 have bx : Below Y13.heap.size Y13 Y14 := b1
 clear b1
 replace b_U2 := Below.chain b_U2 bx
 replace b_Y1 := Below.chain b_Y1 bx
 replace b_Y2 := Below.chain b_Y2 bx
 replace b_Y3 := Below.chain b_Y3 bx
 replace b_Y4 := Below.chain b_Y4 bx
 replace b_Y5 := Below.chain b_Y5 bx
 replace b_Y6 := Below.chain b_Y6 bx
 replace b_Y7 := Below.chain b_Y7 bx
 replace b_Y8 := Below.chain b_Y8 bx
 replace b_Y9 := Below.chain b_Y9 bx
 replace b_Y10 := Below.chain b_Y10 bx
 replace b_Y11 := Below.chain b_Y11 bx
 replace b_Y12 := Below.chain b_Y12 bx
 have b_Y13 := bx
 have m_Y14 : Y13.heap.size ≤ Y14.heap.size := bx.size
 clear bx
 refine ⟨_, rfl, ⟨(q0.go b_U2), (q1.go b_U2), (q2.go b_U2)⟩, ?_⟩
 simp only [Act.put, arr9, hd9, tl9]
 refine held_one 44 (by kernel_rfl) ?_
 refine step_call 44 _ _ (some 81) 14 #[.agg (pc p).toArray] (by rfl) (by kernel_rfl) (by first | kernel_rfl | go_simp) ?_
 refine (R1.out Y14).mono ?_
 rintro e Y15 ⟨rfl, b1⟩
 have bx : Below Y14.heap.size Y14 Y15 := b1
 clear b1
 replace b_U2 := Below.chain b_U2 bx
 replace b_Y1 := Below.chain b_Y1 bx
 replace b_Y2 := Below.chain b_Y2 bx
 replace b_Y3 := Below.chain b_Y3 bx
 replace b_Y4 := Below.chain b_Y4 bx
 replace b_Y5 := Below.chain b_Y5 bx
 replace b_Y6 := Below.chain b_Y6 bx
 replace b_Y7 := Below.chain b_Y7 bx
 replace b_Y8 := Below.chain b_Y8 bx
 replace b_Y9 := Below.chain b_Y9 bx
 replace b_Y10 := Below.chain b_Y10 bx
 replace b_Y11 := Below.chain b_Y11 bx
 replace b_Y12 := Below.chain b_Y12 bx
 replace b_Y13 := Below.chain b_Y13 bx
 have b_Y14 := bx
 have m_Y15 : Y14.heap.size ≤ Y15.heap.size := bx.size
 clear bx
 refine ⟨_, rfl, ⟨(q0.go b_U2), (q1.go b_U2), (q2.go b_U2)⟩, ?_⟩
 simp only [Act.put, arr9, hd9, tl9]
 refine hdv 45 82 (.bool true) (by rfl) (fun w hS => run_eql_agg (by kernel_rfl) (Era.out w) (by kernel_rfl) (by kernel_rfl)) (⟨(q0.go b_U2), (q1.go b_U2), (q2.go b_U2)⟩) ?_
 refine hdv0 46 83 (.bool true) (by rfl) (⟨(q0.go b_U2), (q1.go b_U2), (q2.go b_U2)⟩) ?_
 refine hdv0 47 6 (.bool true) (by rfl) (⟨(q0.go b_U2), (q1.go b_U2), (q2.go b_U2)⟩) ?_
 refine wpAnyH_done (by kernel_rfl) ?_ _
 have HR : Shh (Below N w Y15) := ⟨bN.trans (b_U2.mono (by have := q1.lt; omega))⟩
 clear m_Y15 b_Y14 m_Y14 b_Y13 m_Y13 b_Y12 m_Y12 b_Y11 m_Y11 b_Y10 m_Y10 b_Y9 m_Y9 b_Y8 m_Y8 b_Y7 m_Y7 b_Y6 m_Y6 b_Y5 m_Y5 b_Y4 m_Y4 b_Y3 m_Y3 b_Y2 m_Y2 b_Y1 m_Y1 b_U2 bN q0 q1 q2
 go_wp2
 go_ret
 exact ⟨rfl, HR.out⟩
end Go.Proofs.Ytfcgdjgfdbcddaa

/-
 THE LAW RingBack.
-/
namespace Go.Proofs.Ytfcgdjgfdbcddaa
open Go.RowKit
set_option maxRecDepth 100000
theorem encF_red (d : Nat) (p : Nat → Nat) (i : Nat) : (d = 12 → encF d p i = redN p i) ∧ (¬ d = 12 → encF d p i = p i % 2 ^ d) := by
 constructor
 ·intro h
  unfold encF redN
  rw [if_pos h, rd_same, h, Nat.mod_eq_of_lt (Nat.lt_trans (Nat.mod_lt _ (by decide)) (by decide))]
 ·intro h
  unfold encF
  rw [if_neg h]
theorem encF_16 (d : Nat) (hd : d ≤ 12) (p : Nat → Nat) (i : Nat) : encF d p i < 65536 := Nat.lt_of_lt_of_le (encF_lt d p i) (Nat.le_trans (Nat.pow_le_pow_right (by decide) (show d ≤ 16 by omega)) (by decide))
theorem encF_two (d : Nat) (p : Nat → Nat) (i : Nat) : encF d (encF d p) i = encF d p i := by
 by_cases h : d = 12
 ·rw [(encF_red d _ i).1 h, (encF_red d p i).1 h]
  unfold redN
  rw [(encF_red d p i).1 h]
  unfold redN
  exact rd_rd _
 ·rw [(encF_red d _ i).2 h, Nat.mod_eq_of_lt (encF_lt d p i)]
theorem encB_two (d : Nat) (p : Nat → Nat) : encB d (encF d p) = encB d p := by
 unfold encB
 rw [show encF d (encF d p) = encF d p from funext fun i => encF_two d p i]
theorem litN_encB (d : Nat) (p : Nat → Nat) : litN (encB d p) = sumN (encF d p) (2 ^ d) 256 := by
 unfold encB
 rw [litN_litB, Nat.mod_eq_of_lt]
 have h := sumN_lt (encF_lt d p) 256
 rw [← Nat.pow_mul] at h
 rw [show (256 : Nat) ^ (32 * d) = 2 ^ (8 * (32 * d)) by rw [Nat.pow_mul 2 8 (32 * d)], show 8 * (32 * d) = d * 256 by omega]
 exact h
theorem decN_encB (d : Nat) (p : Nat → Nat) (i : Nat) (hi : i < 256) : decN d (litN (encB d p)) i = encF d p i := by
 rw [litN_encB]
 exact decN_sum d i 256 (encF_lt d p) hi
theorem decF_encB (d : Nat) (p : Nat → Nat) (i : Nat) (hi : i < 256) : decF d (litN (encB d p)) i = encF d p i := by
 unfold decF
 rw [decN_encB d p i hi]
 split
 ·rename_i h
  rw [(encF_red d p i).1 h]
  unfold redN
  exact Nat.mod_eq_of_lt (rd_lt _)
 ·rfl
theorem canon_encB (p : Nat → Nat) : canonB (encB 12 p) = true := by
 unfold canonB
 rw [decide_eq_true (show (encB 12 p).length = 384 from encB_length 12 p), Bool.true_and, List.all_eq_true]
 intro i hi
 refine decide_eq_true ?_
 rw [decN_encB 12 p i (List.mem_range.1 hi), (encF_red 12 p i).1 rfl]
 exact rd_lt _
section
variable {a : Act} {x y : Operand} {op : Oper} {w : World}
theorem shl_1u {d k : Nat} (h : k = 2 ^ d) (hd : d ≤ 15) (ho : op.op = .binOp .shl 22 (.const (.int .u16 1)) y 42) (hy : a.eval y = .int .u64 (d : Int)) : (execOp a.eval op).run Try.prog w = .ok (.value (.int .u16 (k : Int))) w := by
 have hc : a.eval (.const (.int .u16 1)) = .int .u16 1 := rfl
 have h1 : ¬ (d : Int) < 0 := by omega
 have h2 : (d : Int).toNat = d := by omega
 have h3 : min d 16 = d := by omega
 have h4 : 2 ^ d ≤ 2 ^ 15 := Nat.pow_le_pow_right (by decide) hd
 have h5 : 2 ^ 15 = 32768 := rfl
 have he : (2 : Int) ^ d = (k : Int) := by rw [h, Int.natCast_pow]; rfl
 have hk : k < 65536 := by omega
 have hw : IntKind.u16.wrap (k : Int) = (k : Int) := by rw [IntKind.wrap_u16]; omega
 have hm : (k : Int) % 65536 = (k : Int) := by omega
 clear h h4 h5
 unfold execOp
 simp only [ho, hc, hy]
 go_simp
theorem rem_uu {i j k : Nat} (h : k = i % j) (hj : 0 < j) (hi : i < 65536) (ho : op.op = .binOp .rem 22 x y 22) (hx : a.eval x = .int .u16 (i : Int)) (hy : a.eval y = .int .u16 (j : Int)) : (execOp a.eval op).run Try.prog w = .ok (.value (.int .u16 (k : Int))) w := by
 have hk : k ≤ i := by rw [h]; exact Nat.mod_le _ _
 have e : (i : Int).tmod (j : Int) = (k : Int) := by rw [Int.tmod_eq_emod_of_nonneg (by omega), h, Int.natCast_emod]
 have hw : IntKind.u16.wrap (k : Int) = (k : Int) := by rw [IntKind.wrap_u16]; omega
 have hm : (k : Int) % 65536 = (k : Int) := by omega
 have hz : ¬ (j : Int) = 0 := by omega
 have e2 : (i : Int) % (j : Int) = (k : Int) := by rw [h, Int.natCast_emod]
 clear h
 generalize (i : Int) = ii at *
 generalize (j : Int) = jj at *
 generalize (k : Int) = kk at *
 unfold execOp
 simp only [ho, hx, hy]
 go_simp
end
set_option maxHeartbeats 2000000 in
theorem back_bad (n : Int) (hn : n < 1 ∨ 12 < n) (p : Nat → Nat) (hp : ∀ i, i < 256 → p i < 65536) (w : World) : Calls Try.prog 9 #[.int .i64 n, polyV p] w (TrueIs w) := by
 unfold TrueIs polyV
 generalize hN : w.heap.size = N at *
 have HLV : Shh (∀ W, Calls Try.prog 13 #[] W (TrueIs W)) := ⟨live13⟩
 obtain ⟨ra, x1, x2, R1, N1, I1, I2, N2, HE, HRA⟩ : ∃ ra x1 x2 : Nat → Nat, Shh (∀ W, Calls Try.prog 14 #[.agg (pc p).toArray] W (PolyIs W ra)) ∧ Shh (∀ W, Calls Try.prog 22 #[.agg (pc p).toArray] W (PolyIs W x1)) ∧ Shh (∀ W, Calls Try.prog 24 #[.agg (pc x1).toArray] W (PolyIs W ra)) ∧ Shh (∀ W, Calls Try.prog 24 #[.agg (pc p).toArray] W (PolyIs W x2)) ∧ Shh (∀ W, Calls Try.prog 22 #[.agg (pc x2).toArray] W (PolyIs W ra)) ∧ Shh (∀ W, (Op.equalIn 10000 24 (.agg (pc ra).toArray) (.agg (pc ra).toArray)).run Try.prog W = .ok true W) ∧ Shh (ra = redN p) :=
  ⟨redN p, nttN p, invN p, ⟨fun W => Reduce_any p hp W⟩, ⟨fun W => Ntt_any p hp W⟩, ⟨fun W => Poly_of (Inv_any _ (fun i _ => rd_16 _) W) fun i hi => (inv_ntt p i hi).symm⟩, ⟨fun W => Inv_any p hp W⟩, ⟨fun W => Poly_of (Ntt_any _ (fun i _ => rd_16 _) W) fun i hi => (ntt_inv p i hi).symm⟩, ⟨fun W => eq_poly _ (fun i _ => rd_16 _) W⟩, ⟨rfl⟩⟩
 have HEN : Shh (∀ W, Calls Try.prog 32 #[.int .i64 n, .agg (pc p).toArray] W (PutIs W 1 [])) := ⟨fun W => Encode_bad n hn p W⟩
 clear hp
 have HJ : Shh (Row (w.alloc (.cells (pc p).toArray 24)) N 24 (pc p) ∧ Below N w (w.alloc (.cells (pc p).toArray 24))) := by
  refine ⟨Row.new_ hN.symm rfl, ?_⟩
  rw [← hN]
  exact bel1 _ _
 go_enter Try.func9, Try.ntmps9
 go_wp2_with (go_at_call 13; refine (HLV.out _).mono ?_)
 rintro e w2 ⟨rfl, hb⟩
 have HI : Shh (Row w2 N 24 (pc p) ∧ Below N w w2) := ⟨HJ.out.1.go hb, HJ.out.2.trans (hb.mono (by have := HJ.out.1.lt; omega))⟩
 clear hb HJ HLV
 go_wp2_with (first | refine wpList_load_any rfl 24 (.tmp 3) rfl N rfl 24 (pc p) (.array 256 22) HI.out.1 Try.underlying24 rfl (info_poly.trans (size_poly p)) ?_ | (go_at_call 14; refine (R1.out _).mono ?_))
 rintro e w3 ⟨rfl, hb⟩
 have HJ : Shh (Row w3 N 24 (pc p) ∧ Below N w w3) := ⟨HI.out.1.go hb, HI.out.2.trans (hb.mono (Nat.le_of_lt HI.out.1.lt))⟩
 clear hb HI R1
 go_wp2_with (refine wl_newP 5 ra rfl rfl rfl rfl rfl rfl rfl rfl ?_)
 intro G1 w4 hG r5 hb
 simp only [Act.put, arr9, hd9, tl9]
 have HI : Shh ((Row w4 N 24 (pc p) ∧ Row w4 G1 24 (pc ra)) ∧ Below N w w4) := ⟨⟨HJ.out.1.go hb, r5⟩, HJ.out.2.trans (hb.mono (Nat.le_of_lt HJ.out.1.lt))⟩
 clear hb r5 HJ hG
 go_wp2
 refine wp_region_held_drew (S := fun w' => Row w' N 24 (pc p) ∧ Row w' G1 24 (pc ra)) (by kernel_rfl) ⟨HI.out.1.1.drew, HI.out.1.2.drew⟩ (fun hS => ?_)
 clear hS
 obtain ⟨U, hU⟩ : ∃ V, V = World.drew w4 := ⟨_, rfl⟩
 rw [← hU]
 have q0 : Row U N 24 (pc p) := by rw [hU]; exact HI.out.1.1.drew
 have q1 : Row U G1 24 (pc ra) := by rw [hU]; exact HI.out.1.2.drew
 have bN : Below N w U := by rw [hU]; exact HI.out.2.drew
 clear HI hU
 refine held_load 0 24 (.tmp 3) (some 18) (by kernel_rfl) (by rfl) (by kernel_rfl) N 0 (by kernel_rfl) (pc p) _ (fun w h => h.1.range) Try.underlying24 rfl (info_poly.trans (size_poly _)) (fun _ _ _ _ h => h) (⟨q0, q1⟩) ?_
 simp only [Act.put, arr9, hd9, tl9]
 refine held_load 3 24 (.tmp 5) (some 21) (by kernel_rfl) (by rfl) (by kernel_rfl) G1 0 (by kernel_rfl) (pc ra) _ (fun w h => h.2.range) Try.underlying24 rfl (info_poly.trans (size_poly _)) (fun _ _ _ _ h => h) (⟨q0, q1⟩) ?_
 simp only [Act.put, arr9, hd9, tl9]
 refine held_one 1 (by kernel_rfl) ?_
 refine step_call 1 _ _ (some 19) 22 #[.agg (pc p).toArray] (by rfl) (by kernel_rfl) (by first | kernel_rfl | go_simp) ?_
 refine (N1.out U).mono ?_
 rintro e Y1 ⟨rfl, b1⟩
 have bx : Below U.heap.size U Y1 := b1
 clear b1
 have b_U := bx
 have m_Y1 : U.heap.size ≤ Y1.heap.size := bx.size
 clear bx
 refine ⟨_, rfl, ⟨(q0.go b_U), (q1.go b_U)⟩, ?_⟩
 simp only [Act.put, arr9, hd9, tl9]
 refine held_one 2 (by kernel_rfl) ?_
 refine step_call 2 _ _ (some 20) 24 #[.agg (pc x1).toArray] (by rfl) (by kernel_rfl) (by first | kernel_rfl | go_simp) ?_
 refine (I1.out Y1).mono ?_
 rintro e Y2 ⟨rfl, b1⟩
 have bx : Below Y1.heap.size Y1 Y2 := b1
 clear b1
 replace b_U := Below.chain b_U bx
 have b_Y1 := bx
 have m_Y2 : Y1.heap.size ≤ Y2.heap.size := bx.size
 clear bx
 refine ⟨_, rfl, ⟨(q0.go b_U), (q1.go b_U)⟩, ?_⟩
 simp only [Act.put, arr9, hd9, tl9]
 refine hdv 4 22 (.bool false) (by rfl) (fun w hS => run_neq_same (by kernel_rfl) (HE.out w) (by kernel_rfl) (by kernel_rfl)) (⟨(q0.go b_U), (q1.go b_U)⟩) ?_
 refine hdv0 5 23 (.bool false) (by rfl) (⟨(q0.go b_U), (q1.go b_U)⟩) ?_
 refine held_load 6 24 (.tmp 3) (some 24) (by kernel_rfl) (by rfl) (by kernel_rfl) N 0 (by kernel_rfl) (pc p) _ (fun w h => h.1.range) Try.underlying24 rfl (info_poly.trans (size_poly _)) (fun _ _ _ _ h => h) (⟨(q0.go b_U), (q1.go b_U)⟩) ?_
 simp only [Act.put, arr9, hd9, tl9]
 refine held_load 9 24 (.tmp 5) (some 27) (by kernel_rfl) (by rfl) (by kernel_rfl) G1 0 (by kernel_rfl) (pc ra) _ (fun w h => h.2.range) Try.underlying24 rfl (info_poly.trans (size_poly _)) (fun _ _ _ _ h => h) (⟨(q0.go b_U), (q1.go b_U)⟩) ?_
 simp only [Act.put, arr9, hd9, tl9]
 refine held_one 7 (by kernel_rfl) ?_
 refine step_call 7 _ _ (some 25) 24 #[.agg (pc p).toArray] (by rfl) (by kernel_rfl) (by first | kernel_rfl | go_simp) ?_
 refine (I2.out Y2).mono ?_
 rintro e Y3 ⟨rfl, b1⟩
 have bx : Below Y2.heap.size Y2 Y3 := b1
 clear b1
 replace b_U := Below.chain b_U bx
 replace b_Y1 := Below.chain b_Y1 bx
 have b_Y2 := bx
 have m_Y3 : Y2.heap.size ≤ Y3.heap.size := bx.size
 clear bx
 refine ⟨_, rfl, ⟨(q0.go b_U), (q1.go b_U)⟩, ?_⟩
 simp only [Act.put, arr9, hd9, tl9]
 refine held_one 8 (by kernel_rfl) ?_
 refine step_call 8 _ _ (some 26) 22 #[.agg (pc x2).toArray] (by rfl) (by kernel_rfl) (by first | kernel_rfl | go_simp) ?_
 refine (N2.out Y3).mono ?_
 rintro e Y4 ⟨rfl, b1⟩
 have bx : Below Y3.heap.size Y3 Y4 := b1
 clear b1
 replace b_U := Below.chain b_U bx
 replace b_Y1 := Below.chain b_Y1 bx
 replace b_Y2 := Below.chain b_Y2 bx
 have b_Y3 := bx
 have m_Y4 : Y3.heap.size ≤ Y4.heap.size := bx.size
 clear bx
 refine ⟨_, rfl, ⟨(q0.go b_U), (q1.go b_U)⟩, ?_⟩
 simp only [Act.put, arr9, hd9, tl9]
 refine hdv 10 28 (.bool false) (by rfl) (fun w hS => run_neq_same (by kernel_rfl) (HE.out w) (by kernel_rfl) (by kernel_rfl)) (⟨(q0.go b_U), (q1.go b_U)⟩) ?_
 refine hdv0 11 29 (.bool false) (by rfl) (⟨(q0.go b_U), (q1.go b_U)⟩) ?_
 refine wpAnyH_done (by kernel_rfl) ?_ _
 have HZ : Shh ((Row Y4 N 24 (pc p) ∧ Row Y4 G1 24 (pc ra)) ∧ Below N w Y4) := ⟨⟨(q0.go b_U), (q1.go b_U)⟩, bN.trans (b_U.mono (Nat.le_of_lt q0.lt))⟩
 clear m_Y4 b_Y3 m_Y3 b_Y2 m_Y2 b_Y1 m_Y1 b_U bN q0 q1
 clear HE N1 I1 I2 N2
 go_wp2_with (first | refine wpList_load_any rfl 24 (.tmp 3) rfl N rfl 24 (pc p) (.array 256 22) HZ.out.1.1 Try.underlying24 rfl (info_poly.trans (size_poly p)) ?_ | (go_at_call 32; refine (HEN.out _).mono ?_))
 rintro e w8 ⟨v1, rfl, ho, hb⟩
 obtain ⟨A1, c1, rfl, _, _⟩ := (Sl.of_own ho).form
 have HB : Shh (Below N w w8) := ⟨HZ.out.2.trans (hb.mono (Nat.le_of_lt HZ.out.1.1.lt))⟩
 clear ho hb HZ HEN
 by_cases h1 : n < 1
 ·clear hn
  go_wp2
  go_ret
  exact ⟨rfl, HB.out⟩
 ·have h2 : 12 < n := by omega
  clear hn
  go_wp2
  go_ret
  exact ⟨rfl, HB.out⟩
set_option maxHeartbeats 2000000 in
theorem back_good (d : Nat) (hd : 1 ≤ d ∧ d ≤ 12) (p : Nat → Nat) (hp : ∀ i, i < 256 → p i < 65536) (w : World) : Calls Try.prog 9 #[.int .i64 (d : Int), polyV p] w (TrueIs w) := by
 unfold TrueIs polyV
 generalize hN : w.heap.size = N at *
 have HLV : Shh (∀ W, Calls Try.prog 13 #[] W (TrueIs W)) := ⟨live13⟩
 obtain ⟨ra, x1, x2, R1, N1, I1, I2, N2, HE, HRA⟩ : ∃ ra x1 x2 : Nat → Nat, Shh (∀ W, Calls Try.prog 14 #[.agg (pc p).toArray] W (PolyIs W ra)) ∧ Shh (∀ W, Calls Try.prog 22 #[.agg (pc p).toArray] W (PolyIs W x1)) ∧ Shh (∀ W, Calls Try.prog 24 #[.agg (pc x1).toArray] W (PolyIs W ra)) ∧ Shh (∀ W, Calls Try.prog 24 #[.agg (pc p).toArray] W (PolyIs W x2)) ∧ Shh (∀ W, Calls Try.prog 22 #[.agg (pc x2).toArray] W (PolyIs W ra)) ∧ Shh (∀ W, (Op.equalIn 10000 24 (.agg (pc ra).toArray) (.agg (pc ra).toArray)).run Try.prog W = .ok true W) ∧ Shh (ra = redN p) :=
  ⟨redN p, nttN p, invN p, ⟨fun W => Reduce_any p hp W⟩, ⟨fun W => Ntt_any p hp W⟩, ⟨fun W => Poly_of (Inv_any _ (fun i _ => rd_16 _) W) fun i hi => (inv_ntt p i hi).symm⟩, ⟨fun W => Inv_any p hp W⟩, ⟨fun W => Poly_of (Ntt_any _ (fun i _ => rd_16 _) W) fun i hi => (ntt_inv p i hi).symm⟩, ⟨fun W => eq_poly _ (fun i _ => rd_16 _) W⟩, ⟨rfl⟩⟩
 have i1 : ¬ (d : Int) < 1 := by omega
 have i2 : ¬ (12 : Int) < (d : Int) := by omega
 obtain ⟨bs, Hbs⟩ : ∃ bs, Shh (bs = encB d p) := ⟨_, ⟨rfl⟩⟩
 obtain ⟨xp, Hxp⟩ : ∃ xp : Nat → Nat, Shh (xp = encF d p) := ⟨_, ⟨rfl⟩⟩
 have HBL : Shh (bs.length = 32 * d) := ⟨by rw [Hbs.out]; exact encB_length d p⟩
 have HEN : Shh (∀ W, Calls Try.prog 32 #[.int .i64 (d : Int), .agg (pc p).toArray] W (PutIs W 0 bs)) := ⟨fun W => by rw [Hbs.out]; exact Encode_any d hd p hp W⟩
 have HDE : Shh (∀ W v, Sl W W.heap.size v bs → Calls Try.prog 34 #[.int .i64 (d : Int), v] W (CodeIs W xp 0)) := ⟨fun W v h => by
  have h2 := Decode_any d hd W.heap.size v bs HBL.out W h (Nat.le_refl _)
  unfold CodeIs polyV at *
  rw [show pc xp = pc (decF d (litN bs)) from pc_of fun i hi => by rw [Hxp.out, Hbs.out, decF_encB d p i hi]]
  exact h2⟩
 have HEN2 : Shh (∀ W, Calls Try.prog 32 #[.int .i64 (d : Int), .agg (pc xp).toArray] W (PutIs W 0 bs)) := ⟨fun W => by
  rw [Hbs.out, ← encB_two, Hxp.out]
  exact Encode_any d hd _ (fun i _ => encF_16 d hd.2 p i) W⟩
 have HQ : Shh (∀ (B B' : Nat) (v v' : Value) (w : World), Sl w B v bs → Sl w B' v' bs → Calls Try.prog 36 #[v, v'] w (EqIs w true)) := ⟨fun B B' v v' w h1 h2 => by
  have h3 := refEqual_any B B' v v' bs bs w h1 h2
  rw [beq_self_eq_true] at h3
  exact h3⟩
 have HCN : Shh (d = 12 → ∀ W v, Sl W W.heap.size v bs → Calls Try.prog 37 #[v] W (BoolIs W true)) := ⟨fun h W v hs => by
  have h3 := Canon_any W.heap.size v bs W hs (Nat.le_refl _)
  rw [show canonB bs = true by rw [Hbs.out, h]; exact canon_encB p] at h3
  exact h3⟩
 obtain ⟨P, hPP⟩ : ∃ P, Shh (P = 2 ^ d) := ⟨_, ⟨rfl⟩⟩
 have HPB : Shh (0 < P ∧ d ≤ 15 ∧ d ≤ 1000) := ⟨by rw [hPP.out]; exact Nat.two_pow_pos d, by omega, by omega⟩
 have HXX : Shh (∀ i, i < 256 → p i < 65536 ∧ (d = 12 → xp i = ra i) ∧ (¬ d = 12 → xp i = p i % P)) := ⟨fun i hi => ⟨hp i hi, fun h => by rw [Hxp.out, HRA.out]; exact (encF_red d p i).1 h, fun h => by rw [Hxp.out, hPP.out]; exact (encF_red d p i).2 h⟩⟩
 have HD := Shh.mk hd
 have i3 : (bs.length : Int) ≤ 32 * (d : Int) := by have := HBL.out; omega
 have i4 : 32 * (d : Int) ≤ (bs.length : Int) := by have := HBL.out; omega
 have i5 : (d : Int) ≤ 12 := by omega
 clear hp hd Hbs Hxp HRA HBL
 have HJ : Shh (Row (w.alloc (.cells (pc p).toArray 24)) N 24 (pc p) ∧ Below N w (w.alloc (.cells (pc p).toArray 24))) := by
  refine ⟨Row.new_ hN.symm rfl, ?_⟩
  rw [← hN]
  exact bel1 _ _
 go_enter Try.func9, Try.ntmps9
 go_wp2_with (go_at_call 13; refine (HLV.out _).mono ?_)
 rintro e w2 ⟨rfl, hb⟩
 have HI : Shh (Row w2 N 24 (pc p) ∧ Below N w w2) := ⟨HJ.out.1.go hb, HJ.out.2.trans (hb.mono (by have := HJ.out.1.lt; omega))⟩
 clear hb HJ HLV
 go_wp2_with (first | refine wpList_load_any rfl 24 (.tmp 3) rfl N rfl 24 (pc p) (.array 256 22) HI.out.1 Try.underlying24 rfl (info_poly.trans (size_poly p)) ?_ | (go_at_call 14; refine (R1.out _).mono ?_))
 rintro e w3 ⟨rfl, hb⟩
 have HJ : Shh (Row w3 N 24 (pc p) ∧ Below N w w3) := ⟨HI.out.1.go hb, HI.out.2.trans (hb.mono (Nat.le_of_lt HI.out.1.lt))⟩
 clear hb HI R1
 go_wp2_with (refine wl_newP 5 ra rfl rfl rfl rfl rfl rfl rfl rfl ?_)
 intro G1 w4 hG r5 hb
 simp only [Act.put, arr9, hd9, tl9]
 have HI : Shh ((Row w4 N 24 (pc p) ∧ Row w4 G1 24 (pc ra)) ∧ Below N w w4) := ⟨⟨HJ.out.1.go hb, r5⟩, HJ.out.2.trans (hb.mono (Nat.le_of_lt HJ.out.1.lt))⟩
 clear hb r5 HJ hG
 go_wp2
 refine wp_region_held_drew (S := fun w' => Row w' N 24 (pc p) ∧ Row w' G1 24 (pc ra)) (by kernel_rfl) ⟨HI.out.1.1.drew, HI.out.1.2.drew⟩ (fun hS => ?_)
 clear hS
 obtain ⟨U, hU⟩ : ∃ V, V = World.drew w4 := ⟨_, rfl⟩
 rw [← hU]
 have q0 : Row U N 24 (pc p) := by rw [hU]; exact HI.out.1.1.drew
 have q1 : Row U G1 24 (pc ra) := by rw [hU]; exact HI.out.1.2.drew
 have bN : Below N w U := by rw [hU]; exact HI.out.2.drew
 clear HI hU
 refine held_load 0 24 (.tmp 3) (some 18) (by kernel_rfl) (by rfl) (by kernel_rfl) N 0 (by kernel_rfl) (pc p) _ (fun w h => h.1.range) Try.underlying24 rfl (info_poly.trans (size_poly _)) (fun _ _ _ _ h => h) (⟨q0, q1⟩) ?_
 simp only [Act.put, arr9, hd9, tl9]
 refine held_load 3 24 (.tmp 5) (some 21) (by kernel_rfl) (by rfl) (by kernel_rfl) G1 0 (by kernel_rfl) (pc ra) _ (fun w h => h.2.range) Try.underlying24 rfl (info_poly.trans (size_poly _)) (fun _ _ _ _ h => h) (⟨q0, q1⟩) ?_
 simp only [Act.put, arr9, hd9, tl9]
 refine held_one 1 (by kernel_rfl) ?_
 refine step_call 1 _ _ (some 19) 22 #[.agg (pc p).toArray] (by rfl) (by kernel_rfl) (by first | kernel_rfl | go_simp) ?_
 refine (N1.out U).mono ?_
 rintro e Y1 ⟨rfl, b1⟩
 have bx : Below U.heap.size U Y1 := b1
 clear b1
 have b_U := bx
 have m_Y1 : U.heap.size ≤ Y1.heap.size := bx.size
 clear bx
 refine ⟨_, rfl, ⟨(q0.go b_U), (q1.go b_U)⟩, ?_⟩
 simp only [Act.put, arr9, hd9, tl9]
 refine held_one 2 (by kernel_rfl) ?_
 refine step_call 2 _ _ (some 20) 24 #[.agg (pc x1).toArray] (by rfl) (by kernel_rfl) (by first | kernel_rfl | go_simp) ?_
 refine (I1.out Y1).mono ?_
 rintro e Y2 ⟨rfl, b1⟩
 have bx : Below Y1.heap.size Y1 Y2 := b1
 clear b1
 replace b_U := Below.chain b_U bx
 have b_Y1 := bx
 have m_Y2 : Y1.heap.size ≤ Y2.heap.size := bx.size
 clear bx
 refine ⟨_, rfl, ⟨(q0.go b_U), (q1.go b_U)⟩, ?_⟩
 simp only [Act.put, arr9, hd9, tl9]
 refine hdv 4 22 (.bool false) (by rfl) (fun w hS => run_neq_same (by kernel_rfl) (HE.out w) (by kernel_rfl) (by kernel_rfl)) (⟨(q0.go b_U), (q1.go b_U)⟩) ?_
 refine hdv0 5 23 (.bool false) (by rfl) (⟨(q0.go b_U), (q1.go b_U)⟩) ?_
 refine held_load 6 24 (.tmp 3) (some 24) (by kernel_rfl) (by rfl) (by kernel_rfl) N 0 (by kernel_rfl) (pc p) _ (fun w h => h.1.range) Try.underlying24 rfl (info_poly.trans (size_poly _)) (fun _ _ _ _ h => h) (⟨(q0.go b_U), (q1.go b_U)⟩) ?_
 simp only [Act.put, arr9, hd9, tl9]
 refine held_load 9 24 (.tmp 5) (some 27) (by kernel_rfl) (by rfl) (by kernel_rfl) G1 0 (by kernel_rfl) (pc ra) _ (fun w h => h.2.range) Try.underlying24 rfl (info_poly.trans (size_poly _)) (fun _ _ _ _ h => h) (⟨(q0.go b_U), (q1.go b_U)⟩) ?_
 simp only [Act.put, arr9, hd9, tl9]
 refine held_one 7 (by kernel_rfl) ?_
 refine step_call 7 _ _ (some 25) 24 #[.agg (pc p).toArray] (by rfl) (by kernel_rfl) (by first | kernel_rfl | go_simp) ?_
 refine (I2.out Y2).mono ?_
 rintro e Y3 ⟨rfl, b1⟩
 have bx : Below Y2.heap.size Y2 Y3 := b1
 clear b1
 replace b_U := Below.chain b_U bx
 replace b_Y1 := Below.chain b_Y1 bx
 have b_Y2 := bx
 have m_Y3 : Y2.heap.size ≤ Y3.heap.size := bx.size
 clear bx
 refine ⟨_, rfl, ⟨(q0.go b_U), (q1.go b_U)⟩, ?_⟩
 simp only [Act.put, arr9, hd9, tl9]
 refine held_one 8 (by kernel_rfl) ?_
 refine step_call 8 _ _ (some 26) 22 #[.agg (pc x2).toArray] (by rfl) (by kernel_rfl) (by first | kernel_rfl | go_simp) ?_
 refine (N2.out Y3).mono ?_
 rintro e Y4 ⟨rfl, b1⟩
 have bx : Below Y3.heap.size Y3 Y4 := b1
 clear b1
 replace b_U := Below.chain b_U bx
 replace b_Y1 := Below.chain b_Y1 bx
 replace b_Y2 := Below.chain b_Y2 bx
 have b_Y3 := bx
 have m_Y4 : Y3.heap.size ≤ Y4.heap.size := bx.size
 clear bx
 refine ⟨_, rfl, ⟨(q0.go b_U), (q1.go b_U)⟩, ?_⟩
 simp only [Act.put, arr9, hd9, tl9]
 refine hdv 10 28 (.bool false) (by rfl) (fun w hS => run_neq_same (by kernel_rfl) (HE.out w) (by kernel_rfl) (by kernel_rfl)) (⟨(q0.go b_U), (q1.go b_U)⟩) ?_
 refine hdv0 11 29 (.bool false) (by rfl) (⟨(q0.go b_U), (q1.go b_U)⟩) ?_
 refine wpAnyH_done (by kernel_rfl) ?_ _
 have HZ : Shh ((Row Y4 N 24 (pc p) ∧ Row Y4 G1 24 (pc ra)) ∧ Below N w Y4) := ⟨⟨(q0.go b_U), (q1.go b_U)⟩, bN.trans (b_U.mono (Nat.le_of_lt q0.lt))⟩
 clear m_Y4 b_Y3 m_Y3 b_Y2 m_Y2 b_Y1 m_Y1 b_U bN q0 q1
 clear HE N1 I1 I2 N2
 go_wp2_with (first | refine wpList_load_any rfl 24 (.tmp 3) rfl N rfl 24 (pc p) (.array 256 22) HZ.out.1.1 Try.underlying24 rfl (info_poly.trans (size_poly p)) ?_ | (go_at_call 32; refine (HEN.out _).mono ?_))
 rintro e w8 ⟨v1, rfl, ho, hb⟩
 have hsl := Sl.of_own ho
 obtain ⟨A1, c1, hv1, _, _⟩ := hsl.form
 have HI : Shh (Row w8 N 24 (pc p) ∧ Row w8 G1 24 (pc ra) ∧ Below N w w8 ∧ Sl w8 w8.heap.size v1 bs) := ⟨HZ.out.1.1.go hb, HZ.out.1.2.go hb, HZ.out.2.trans (hb.mono (Nat.le_of_lt HZ.out.1.1.lt)), hsl⟩
 have HV1 := Shh.mk hv1
 clear ho hb HZ HEN hsl hv1
 have HDE1 := Shh.mk (HDE.out _ _ HI.out.2.2.2)
 clear HDE
 go_wp2_with (go_at_call 34; refine (HDE1.out).mono ?_)
 rintro e w9 ⟨rfl, hb⟩
 have HJ : Shh (Row w9 N 24 (pc p) ∧ Row w9 G1 24 (pc ra) ∧ Below N w w9 ∧ Sl w9 w9.heap.size v1 bs) := ⟨HI.out.1.go hb, HI.out.2.1.go hb, HI.out.2.2.1.trans (hb.mono (Nat.le_of_lt HI.out.1.lt)), HI.out.2.2.2.go hb⟩
 clear hb HI HDE1
 go_wp2_with (refine wl_newP 8 xp rfl rfl rfl rfl rfl rfl rfl rfl ?_)
 intro G2 w10 hG r5 hb
 simp only [Act.put, arr9, hd9, tl9]
 have HI : Shh (Row w10 N 24 (pc p) ∧ Row w10 G1 24 (pc ra) ∧ Below N w w10 ∧ Sl w10 w10.heap.size v1 bs ∧ Row w10 G2 24 (pc xp)) := ⟨HJ.out.1.go hb, HJ.out.2.1.go hb, HJ.out.2.2.1.trans (hb.mono (Nat.le_of_lt HJ.out.1.lt)), HJ.out.2.2.2.go hb, r5⟩
 clear hb r5 HJ hG
 go_wp2_with (first | refine wpList_load_any rfl 24 (.tmp 8) rfl G2 rfl 24 (pc xp) (.array 256 22) HI.out.2.2.2.2 Try.underlying24 rfl (info_poly.trans (size_poly xp)) ?_ | (go_at_call 32; refine (HEN2.out _).mono ?_))
 rintro e w11 ⟨v2, rfl, ho, hb⟩
 have HJ : Shh ((Row w11 N 24 (pc p) ∧ Row w11 G1 24 (pc ra) ∧ Below N w w11 ∧ Sl w11 w11.heap.size v1 bs ∧ Row w11 G2 24 (pc xp)) ∧ Sl w11 w11.heap.size v2 bs) := ⟨⟨HI.out.1.go hb, HI.out.2.1.go hb, HI.out.2.2.1.trans (hb.mono (Nat.le_of_lt HI.out.1.lt)), HI.out.2.2.2.1.go hb, HI.out.2.2.2.2.go hb⟩, Sl.of_own ho⟩
 clear ho hb HI HEN2
 have HQ1 := Shh.mk (HQ.out _ _ _ _ _ HJ.out.1.2.2.2.1 HJ.out.2)
 clear HQ
 have hv1 := HV1.out
 clear HV1
 subst hv1
 go_wp2_with (go_at_call 36; refine (HQ1.out).mono ?_)
 rintro e w12 ⟨rfl, rfl⟩
 go_wp2
 go_loopw [12, 13, 80] (fun _ _ i wr => ∃ k : Nat, k ≤ 256 ∧ i = .int .i64 (k : Int) ∧ Shh (wr = w11)) (fun _ _ i _ => 256 - (intOf i).toNat)
 case atStart => exact ⟨0, Nat.zero_le _, rfl, ⟨rfl⟩⟩
 case round =>
  obtain ⟨k, hk, rfl, HK⟩ := hrel
  have hwr := HK.out
  subst hwr
  by_cases hlt : k < 256
  ·have hlt2 : (k : Int) < 256 := by omega
   have c1 := HJ.out.1.1.cell k
   rw [pc_get _ hlt] at c1
   have c2 := HJ.out.1.2.1.cell k
   rw [pc_get _ hlt] at c2
   have c3 := HJ.out.1.2.2.2.2.cell k
   rw [pc_get _ hlt] at c3
   have HX := Shh.mk (HXX.out k hlt)
   obtain ⟨pk, Hpk⟩ : ∃ v, Shh (v = p k) := ⟨_, ⟨rfl⟩⟩
   obtain ⟨rk, Hrk⟩ : ∃ v, Shh (v = ra k) := ⟨_, ⟨rfl⟩⟩
   obtain ⟨xk, Hxk⟩ : ∃ v, Shh (v = xp k) := ⟨_, ⟨rfl⟩⟩
   rw [← Hpk.out, ← Hrk.out, ← Hxk.out] at HX
   rw [← Hpk.out] at c1
   rw [← Hrk.out] at c2
   rw [← Hxk.out] at c3
   clear Hpk Hrk Hxk
   obtain ⟨mk, Hmk⟩ : ∃ v, Shh (v = pk % P) := ⟨_, ⟨rfl⟩⟩
   by_cases h12 : d = 12
   ·have H12 := Shh.mk h12
    have he := HX.out.2.1 h12
    clear h12
    subst he
    go_wp2_with (first | refine wl_at 87 rfl (.int .u64 (d : Int)) rfl (conv_uint HPB.out.2.2 rfl rfl) ?_ | refine wl_at 88 rfl (.int .u16 (P : Int)) rfl (shl_1u (d := d) hPP.out HPB.out.2.1 rfl rfl) ?_ | refine wl_at 89 rfl (.int .u16 (mk : Int)) rfl (rem_uu (i := pk) (j := P) Hmk.out HPB.out.1 HX.out.1 rfl rfl rfl) ?_ | refine wl_at 91 rfl (.bool true) rfl (eql_12 H12.out rfl rfl) ?_)
    go_roundw
    case rel => exact ⟨k + 1, by omega, by go_num, ⟨trivial⟩⟩
    case measure => simp [intOf]; omega
   ·have H12 := Shh.mk h12
    have he : xk = mk := (HX.out.2.2 h12).trans Hmk.out.symm
    clear h12
    subst he
    go_wp2_with (first | refine wl_at 87 rfl (.int .u64 (d : Int)) rfl (conv_uint HPB.out.2.2 rfl rfl) ?_ | refine wl_at 88 rfl (.int .u16 (P : Int)) rfl (shl_1u (d := d) hPP.out HPB.out.2.1 rfl rfl) ?_ | refine wl_at 89 rfl (.int .u16 (xk : Int)) rfl (rem_uu (i := pk) (j := P) Hmk.out HPB.out.1 HX.out.1 rfl rfl rfl) ?_ | refine wl_at 91 rfl (.bool false) rfl (neq_12 H12.out rfl rfl) ?_)
    go_roundw
    case rel => exact ⟨k + 1, by omega, by go_num, ⟨trivial⟩⟩
    case measure => simp [intOf]; omega
  ·have hlt2 : ¬ (k : Int) < 256 := by omega
   by_cases h12 : d = 12
   ·have h13 : ¬ (d : Int) < 12 := by omega
    have HC := Shh.mk (HCN.out h12 _ _ HJ.out.1.2.2.2.1)
    clear h12 HCN
    go_wp2_with (go_at_call 37; refine (HC.out).mono ?_)
    rintro e w13 ⟨rfl, hb⟩
    have HB : Shh (Below N w w13) := ⟨HJ.out.1.2.2.1.trans (hb.mono (Nat.le_of_lt HJ.out.1.1.lt))⟩
    clear hb
    go_wp2
    go_ret
    exact ⟨rfl, HB.out⟩
   ·have h13 : (d : Int) < 12 := by omega
    have HB : Shh (Below N w wr) := ⟨HJ.out.1.2.2.1⟩
    clear h12
    go_wp2
    go_ret
    exact ⟨rfl, HB.out⟩
theorem ringBack_law (n : Int) (p : Nat → Nat) (hn : -9223372036854775808 ≤ n ∧ n ≤ 9223372036854775807) (hp : ∀ i, i < 256 → p i < 65536) (w : World) : Calls Try.prog 9 #[.int .i64 n, polyV p] w (TrueIs w) := by
 by_cases h : 1 ≤ n ∧ n ≤ 12
 ·obtain ⟨d, rfl⟩ := Int.eq_ofNat_of_zero_le (show 0 ≤ n by omega)
  exact back_good d (by omega) p hp w
 ·exact back_bad n (by omega) p hp w
end Go.Proofs.Ytfcgdjgfdbcddaa
