/-
 THE DOCUMENT'S FAST TRANSFORM back: join.
-/
import Derived.Test.YtapjiknedghhfaaDq10
namespace Go.Proofs.Ytapjiknedghhfaa
open Go.RowKit
set_option maxRecDepth 100000
theorem slice_q : Try.prog.underlying 54 = some (.slice (Try.prog.elem 54)) := by kernel_rfl
theorem elem_q : Try.prog.elem 54 = 2 := by kernel_rfl
section
variable {a : Act} {w : World} {x y : Operand} {op : Oper}
theorem run_cut_to {g oo n c j : Nat} (hj : j ≤ n) (hn : n ≤ c) (ho : op.op = .slice 54 x none (some y) none) (hx : a.eval x = .slice (some ⟨g, oo, none⟩) n c) (hy : a.eval y = .int .i64 (j : Int)) : (execOp a.eval op).run Try.prog w = .ok (.value (.slice (some ⟨g, oo, none⟩) j c)) w := by
 have h : (Instr.sliceAt 54 (.slice (some ⟨g, oo, none⟩) n c) none (some (.int .i64 (j : Int))) none).run Try.prog w = .ok (.slice (some ⟨g, oo, none⟩) j c) w := by
  rw [run_sliceAt_slice _ _ _ _ _ _ slice_q, run_slice_h w 54 (some ⟨g, oo, none⟩) n c slice_q .i64 (j : Int) (by omega) (by omega), elem_q, size_i64, Result.andThen_ok, Int.toNat_natCast]
  simp [sliced, addr_add]
 unfold execOp
 simp only [ho, hx, hy, Option.map_some, Option.map_none, Sem.run_bind, h, Result.andThen_ok]
 rfl
theorem run_cut_from {g oo n c j : Nat} (hj : j ≤ n) (hn : n ≤ c) (hc : j < c) (ho : op.op = .slice 54 x (some y) none none) (hx : a.eval x = .slice (some ⟨g, oo, none⟩) n c) (hy : a.eval y = .int .i64 (j : Int)) : (execOp a.eval op).run Try.prog w = .ok (.value (.slice (some ⟨g, oo + j, none⟩) (n - j) (c - j))) w := by
 have h : (Instr.sliceAt 54 (.slice (some ⟨g, oo, none⟩) n c) (some (.int .i64 (j : Int))) none none).run Try.prog w = .ok (.slice (some ⟨g, oo + j, none⟩) (n - j) (c - j)) w := by
  rw [run_sliceAt_slice _ _ _ _ _ _ slice_q, run_slice_l w 54 (some ⟨g, oo, none⟩) n c slice_q .i64 (j : Int) (by omega) (by omega), elem_q, size_i64, Result.andThen_ok, Int.toNat_natCast]
  simp [sliced, addr_add, show ¬ c = j by omega]
 unfold execOp
 simp only [ho, hx, hy, Option.map_some, Option.map_none, Sem.run_bind, h, Result.andThen_ok]
 rfl
end
/-- what join hands back; if it is no leaf, its own new block -/
def JoinIs (w : World) (m n : Nat) (f : Nat → Int) (e : Ending) (w' : World) : Prop := ∃ v, e = .returned v ∧ SLq w' w'.heap.size v n f ∧ Below w.heap.size w w' ∧ (m ≠ 0 → ∃ G, v = .slice (some ⟨G, 0, none⟩) n n ∧ w.heap.size ≤ G ∧ Row w' G 2 (lq n f))
/-- k numbers of each half are done -/
def jhf (J : Nat → Int) (n k i : Nat) : Int := if i < k ∨ (n ≤ i ∧ i < n + k) then J i else 0
theorem jhf_zero (J : Nat → Int) (n N : Nat) : lq N (jhf J n 0) = lq N fun _ => 0 := lq_of fun i _ => if_neg (by omega)
theorem jhf_all (J : Nat → Int) (n : Nat) : lq (n * 2) (jhf J n n) = lq (n * 2) J := lq_of fun i _ => if_pos (by omega)
theorem jhf_next (J : Nat → Int) (n k N : Nat) : lq N (dup (dup (jhf J n k) k (J k)) (n + k) (J (n + k))) = lq N (jhf J n (k + 1)) := lq_of fun i _ => by
 unfold dup jhf
 by_cases h1 : i = n + k
 ·rw [if_pos h1, if_pos (by omega), h1]
 ·rw [if_neg h1]
  by_cases h2 : i = k
  ·rw [if_pos h2, if_pos (by omega), h2]
  ·rw [if_neg h2]
   by_cases h3 : i < k ∨ (n ≤ i ∧ i < n + k)
   ·rw [if_pos h3, if_pos (by omega)]
   ·rw [if_neg h3, if_neg (by omega)]
set_option maxHeartbeats 8000000 in
theorem join_any : ∀ (m : Nat) (f : Nat → Int) (e : Nat) (v : Value) (w : World), m ≤ 8 → e ≤ 512 → (∀ i, i < 2 ^ m → 0 ≤ f i ∧ f i < 8380417) → SLq w w.heap.size v (2 ^ m) f → Calls Try.prog 54 #[v, .int .i64 (e : Int)] w (JoinIs w m (2 ^ m) (joinF m f e))
 | 0, f, e, v, w, _, _, _, hown => by
  unfold JoinIs
  have h2 : SLq w w.heap.size v (2 ^ 0) (joinF 0 f e) := hown
  rw [Nat.pow_zero] at *
  obtain ⟨g, oo, c, rfl, _⟩ := hown
  have HO := Shh.mk h2
  clear h2
  go_enter Try.func54, Try.ntmps54
  go_wp2
  go_ret
  exact ⟨_, rfl, HO.out, Below.refl _ _, fun h => absurd rfl h⟩
 | m + 1, f, e, v, w, hm, he, hf, hown => by
  unfold JoinIs
  have HS1 : Shh (∀ v W, SLq W W.heap.size v (2 ^ m) f → Calls Try.prog 54 #[v, .int .i64 ((e / 2 : Nat) : Int)] W (ReadQIs W (2 ^ m) (joinF m f (e / 2)))) := ⟨fun v W h1 => (join_any m _ _ v W (by omega) (by omega) (fun i hi => hf i (by rw [Nat.pow_succ]; omega)) h1).mono fun _ _ ⟨v, a, b, c, _⟩ => ⟨v, a, b, c⟩⟩
  have HS2 : Shh (∀ v W, SLq W W.heap.size v (2 ^ m) (fun i => f (2 ^ m + i)) → Calls Try.prog 54 #[v, .int .i64 ((e / 2 + 256 : Nat) : Int)] W (ReadQIs W (2 ^ m) (joinF m (fun i => f (2 ^ m + i)) (e / 2 + 256)))) := ⟨fun v W h1 => (join_any m _ _ v W (by omega) (by omega) (fun i hi => hf _ (by rw [Nat.pow_succ]; omega)) h1).mono fun _ _ ⟨v, a, b, c, _⟩ => ⟨v, a, b, c⟩⟩
  have HJ1 : Shh (∀ k, k < 2 ^ m → joinF (m + 1) f e k = qd (qd (joinF m f (e / 2) k + joinF m (fun i => f (2 ^ m + i)) (e / 2 + 256) k) * 4190209)) := ⟨fun k hk => if_pos hk⟩
  have HJ2 : Shh (∀ k, k < 2 ^ m → joinF (m + 1) f e (2 ^ m + k) = qd (qd (joinF m f (e / 2) k - joinF m (fun i => f (2 ^ m + i)) (e / 2 + 256) k) * qd (zI (512 - e / 2) * 4190209))) := ⟨fun k hk => by
   have h : joinF (m + 1) f e (2 ^ m + k) = qd (qd (joinF m f (e / 2) (2 ^ m + k - 2 ^ m) - joinF m (fun i => f (2 ^ m + i)) (e / 2 + 256) (2 ^ m + k - 2 ^ m)) * qd (zI (512 - e / 2) * 4190209)) := if_neg (by omega)
   rw [show 2 ^ m + k - 2 ^ m = k by omega] at h
   exact h⟩
  have HLB : Shh (∀ k, k < 2 ^ m → (0 ≤ joinF m f (e / 2) k ∧ joinF m f (e / 2) k < 8380417) ∧ 0 ≤ joinF m (fun i => f (2 ^ m + i)) (e / 2 + 256) k ∧ joinF m (fun i => f (2 ^ m + i)) (e / 2 + 256) k < 8380417) := ⟨fun k hk => ⟨joinF_lt m _ _ k (fun i hi => hf i (by rw [Nat.pow_succ]; omega)) hk, joinF_lt m _ _ k (fun i hi => hf _ (by rw [Nat.pow_succ]; omega)) hk⟩⟩
  have hn1 : 1 ≤ 2 ^ m := Nat.one_le_two_pow
  have hn2 : 2 ^ m ≤ 128 := Nat.le_trans (Nat.pow_le_pow_right (by decide) (show m ≤ 7 by omega)) (by decide)
  rw [Nat.pow_succ] at *
  have HPW : Shh (∀ W, Calls Try.prog 52 #[.int .i64 1753, .int .i64 ((512 - e / 2 : Nat) : Int)] W (I64Is W (zI (512 - e / 2)))) := ⟨fun W => refPowerD_any 1753 (512 - e / 2) (by decide) (by omega) W⟩
  have hz := zI_lt (512 - e / 2)
  have HE : Shh (((e / 2 : Nat) : Int) = (e : Int).tdiv 2 ∧ -9223372036854775808 ≤ ((e / 2 : Nat) : Int) ∧ ((e / 2 : Nat) : Int) ≤ 9223372036854775807) := ⟨by rw [Int.tdiv_eq_ediv_of_nonneg (by omega)]; omega, by omega, by omega⟩
  have HE3 : Shh (((e / 2 + 256 : Nat) : Int) = ((e / 2 : Nat) : Int) + 256 ∧ -9223372036854775808 ≤ ((e / 2 + 256 : Nat) : Int) ∧ ((e / 2 + 256 : Nat) : Int) ≤ 9223372036854775807) := ⟨by omega, by omega, by omega⟩
  have HE4 : Shh (((512 - e / 2 : Nat) : Int) = 512 - ((e / 2 : Nat) : Int) ∧ -9223372036854775808 ≤ ((512 - e / 2 : Nat) : Int) ∧ ((512 - e / 2 : Nat) : Int) ≤ 9223372036854775807) := ⟨by omega, by omega, by omega⟩
  generalize zI (512 - e / 2) = z at *
  obtain ⟨u, Hu⟩ : ∃ u, Shh (u = z * 4190209 ∧ -9223372036854775808 ≤ u ∧ u ≤ 9223372036854775807) := ⟨_, ⟨rfl, by omega, by omega⟩⟩
  obtain ⟨s, Hs, hs⟩ : ∃ s, Shh (s = u.tmod 8380417 ∧ -9223372036854775808 ≤ s ∧ s ≤ 9223372036854775807) ∧ s = qd (z * 4190209) := ⟨qd (z * 4190209), ⟨by rw [Hu.out.1, Int.tmod_eq_emod_of_nonneg (by omega)]; rfl, by have := qd_lt (z * 4190209); omega, by have := qd_lt (z * 4190209); omega⟩, rfl⟩
  rw [← hs] at HJ2
  have HSB : Shh (0 ≤ s ∧ s < 8380417) := ⟨by rw [hs]; exact qd_lt _⟩
  generalize joinF (m + 1) f e = J at *
  generalize 512 - e / 2 = e4 at *
  generalize e / 2 + 256 = e3 at *
  generalize e / 2 = e2 at *
  generalize joinF m f e2 = l at *
  generalize joinF m (fun i => f (2 ^ m + i)) e3 = r at *
  generalize 2 ^ m = n at *
  have HN : Shh (1 ≤ n ∧ n ≤ 128) := ⟨hn1, hn2⟩
  generalize hN : w.heap.size = N at *
  obtain ⟨L2, hL2⟩ : ∃ L, L = n * 2 := ⟨_, rfl⟩
  rw [← hL2] at hown
  have HL : Shh (L2 = n * 2) := ⟨hL2⟩
  obtain ⟨g, oo, c, rfl, hc1, hc2, _⟩ := id hown
  have HC : Shh (n ≤ L2 ∧ L2 ≤ c ∧ n < c ∧ L2 - n = n) := ⟨by omega, hc1, by omega, by omega⟩
  have FA : Shh (SLq w w.heap.size (.slice (some ⟨g, oo, none⟩) L2 c) L2 f ∧ Below N w w ∧ N ≤ w.heap.size) := ⟨by rw [hN]; exact hown, Below.refl _ _, by omega⟩
  have HQ : Shh ((n : Int) = (L2 : Int).tdiv 2 ∧ -9223372036854775808 ≤ (n : Int) ∧ (n : Int) ≤ 9223372036854775807) := ⟨by rw [Int.tdiv_eq_ediv_of_nonneg (by omega)]; omega, by omega, by omega⟩
  have HNZ : Shh (((n : Int) == 0) = false) := ⟨by simp; omega⟩
  have HL2 : Shh ((L2 : Int) = 2 * (n : Int) ∧ -9223372036854775808 ≤ (L2 : Int) ∧ (L2 : Int) ≤ 9223372036854775807) := ⟨by omega, by omega, by omega⟩
  have HL5 : Shh (L2 ≤ 35184372088832 ∧ L2 ≤ maxLen) := ⟨by omega, q_max (by omega)⟩
  have HJA := Shh.mk (jhf_all J n)
  have HJZ := Shh.mk (jhf_zero J n L2)
  rw [← hL2] at HJA ⊢
  clear hf hown hm he hn1 hn2 hL2 hz hs hc1 hc2
  go_enter Try.func54, Try.ntmps54
  go_wp2_with (first | refine wl_at 14 rfl (.int .i64 (n : Int)) rfl (quo_n HQ.out (by decide) rfl rfl rfl) ?_ | refine wl_at 16 rfl (.bool false) rfl (eql_n false HNZ.out rfl rfl rfl) ?_)
  clear HQ HNZ
  refine wp_region_held_drew (S := fun w' => True) (by kernel_rfl) trivial (fun hS => ?_)
  clear hS
  obtain ⟨X1, hX1⟩ : ∃ V, V = World.drew w := ⟨_, rfl⟩
  rw [← hX1]
  have FB : Shh (SLq X1 X1.heap.size (.slice (some ⟨g, oo, none⟩) L2 c) (L2) (f) ∧ Below N w X1 ∧ N ≤ X1.heap.size) := by
   obtain ⟨h0, h1, h2⟩ := FA.out
   rw [hX1]
   exact ⟨h0.drew, h1.drew, h2⟩
  clear hX1 FA
  refine hdv0 0 18 (.slice (some ⟨g, oo, none⟩) L2 c) (by rfl) trivial ?_
  refine hdv0 1 19 (.int .i64 (n : Int)) (by rfl) trivial ?_
  refine hdv 2 20 (.slice (some ⟨g, oo, none⟩) n c) (by rfl) (fun w hS => run_cut_to HC.out.1 HC.out.2.1 rfl (by kernel_rfl) (by kernel_rfl)) trivial ?_
  refine hdv0 3 21 (.int .i64 (e : Int)) (by rfl) trivial ?_
  refine hdv 4 22 (.int .i64 (e2 : Int)) (by rfl) (fun w hS => quo_l HE.out (by decide) rfl (by kernel_rfl) (by kernel_rfl)) trivial ?_
  refine hdv0 6 24 (.slice (some ⟨g, oo, none⟩) L2 c) (by rfl) trivial ?_
  refine hdv0 7 25 (.int .i64 (n : Int)) (by rfl) trivial ?_
  refine hdv 8 26 (.slice (some ⟨g, oo + n, none⟩) (L2 - n) (c - n)) (by rfl) (fun w hS => run_cut_from HC.out.1 HC.out.2.1 HC.out.2.2.1 rfl (by kernel_rfl) (by kernel_rfl)) trivial ?_
  refine hdv0 9 27 (.int .i64 (e : Int)) (by rfl) trivial ?_
  refine hdv 10 28 (.int .i64 (e2 : Int)) (by rfl) (fun w hS => quo_l HE.out (by decide) rfl (by kernel_rfl) (by kernel_rfl)) trivial ?_
  refine hdv 11 29 (.int .i64 (e3 : Int)) (by rfl) (fun w hS => add_l HE3.out rfl (by kernel_rfl) (by kernel_rfl)) trivial ?_
  refine held_one 5 (by kernel_rfl) ?_
  refine step_call 5 _ _ (some 23) 54 #[.slice (some ⟨g, oo, none⟩) n c, .int .i64 (e2 : Int)] (by rfl) (by kernel_rfl) (by first | kernel_rfl | go_simp) ?_
  refine (HS1.out _ X1 (FB.out.1.cut_to HC.out.1)).mono ?_
  rintro e w3 ⟨v1, rfl, s1, b2⟩
  have FC : Shh (SLq w3 w3.heap.size (.slice (some ⟨g, oo, none⟩) L2 c) (L2) (f) ∧ Below N w w3 ∧ N ≤ w3.heap.size ∧ SLq w3 w3.heap.size (v1) (n) (l)) := by
   obtain ⟨h0, h1, h2⟩ := FB.out
   have := b2.size
   exact ⟨h0.go b2, h1.trans (b2.mono (by omega)), (by omega), s1⟩
  clear b2 FB
  refine ⟨_, rfl, trivial, ?_⟩
  simp only [Act.put, arr9, hd9, tl9]
  refine held_one 12 (by kernel_rfl) ?_
  refine step_call 12 _ _ (some 30) 54 #[.slice (some ⟨g, oo + n, none⟩) (L2 - n) (c - n), .int .i64 (e3 : Int)] (by rfl) (by kernel_rfl) (by first | kernel_rfl | go_simp) ?_
  refine (HS2.out _ w3 (by have h := FC.out.1.cut_from HC.out.1; have e := HC.out.2.2.2; rw [e] at h ⊢; exact h)).mono ?_
  rintro e w5 ⟨v2, rfl, s2, b4⟩
  have FD : Shh (SLq w5 w5.heap.size (.slice (some ⟨g, oo, none⟩) L2 c) (L2) (f) ∧ Below N w w5 ∧ N ≤ w5.heap.size ∧ SLq w5 w5.heap.size (v1) (n) (l) ∧ SLq w5 w5.heap.size (v2) (n) (r)) := by
   obtain ⟨h0, h1, h2, h3⟩ := FC.out
   have := b4.size
   exact ⟨h0.go b4, h1.trans (b4.mono (by omega)), (by omega), h3.go b4, s2⟩
  clear b4 FC
  refine ⟨_, rfl, trivial, ?_⟩
  simp only [Act.put, arr9, hd9, tl9]
  refine hdv0 13 6 (v1) (by rfl) trivial ?_
  refine hdv0 14 7 (v2) (by rfl) trivial ?_
  refine wpAnyH_done (by kernel_rfl) ?_ _
  clear s1 s2 HS1 HS2
  obtain ⟨g1, o1, c1, rfl, _⟩ := id (FD.out.2.2.2.1)
  obtain ⟨g2, o2, c2, rfl, _⟩ := id (FD.out.2.2.2.2)
  go_wp2_with (first | refine wl_at 32 rfl (.int .i64 (e2 : Int)) rfl (quo_l HE.out (by decide) rfl rfl rfl) ?_ | refine wl_at 33 rfl (.int .i64 (e4 : Int)) rfl (sub_l HE4.out rfl rfl rfl) ?_ | (go_at_call 52; refine (HPW.out _).mono ?_))
  rintro e w6 ⟨rfl, rfl⟩
  go_wp2_with (first | refine wl_at 36 rfl (.int .i64 u) rfl (mul_l Hu.out rfl rfl rfl) ?_ | refine wl_at 37 rfl (.int .i64 s) rfl (rem_l Hs.out (by decide) rfl rfl rfl) ?_ | refine wl_at 39 rfl (.int .i64 (L2 : Int)) rfl (mul_n HL2.out rfl rfl rfl) ?_ | refine wl_makeQ L2 40 HL5.out.1 rfl rfl rfl rfl rfl ?_)
  intro G w8 hG r9 b7
  try simp only [Act.put, arr9, hd9, tl9]
  have FE : Shh (SLq w8 (G) (.slice (some ⟨g1, o1, none⟩) n c1) (n) (l) ∧ SLq w8 (G) (.slice (some ⟨g2, o2, none⟩) n c2) (n) (r) ∧ Row w8 G 2 (lq L2 fun _ => 0) ∧ Below N w w8 ∧ N ≤ G) := by
   have e := hG.out
   have hsz := (FD.out.2.1).size
   have hs1 := FD.out.2.2.2.1
   have hs2 := FD.out.2.2.2.2
   rw [← e] at hs1 hs2
   have hb : Below G w5 w8 := by rw [e]; exact b7
   exact ⟨hs1.below hb, hs2.below hb, r9, (FD.out.2.1).trans (hb.mono (by omega)), by omega⟩
  clear FD r9 b7 hG
  go_wp2
  go_loopw [42] (fun i wr => ∃ k : Nat, k ≤ n ∧ i = .int .i64 (k : Int) ∧ Shh (SLq wr (G) (.slice (some ⟨g1, o1, none⟩) n c1) (n) (l) ∧ SLq wr (G) (.slice (some ⟨g2, o2, none⟩) n c2) (n) (r) ∧ Row wr G 2 (lq L2 (jhf J n k)) ∧ Below N w wr ∧ N ≤ G)) (fun i _ => n - (intOf i).toNat)
  case atStart => exact ⟨0, Nat.zero_le _, rfl, ⟨by rw [HJZ.out]; exact FE.out⟩⟩
  case round =>
   clear FE
   obtain ⟨k, hk, rfl, HI⟩ := hrel
   by_cases hlt : k < n
   ·have hlt2 : (k : Int) < (n : Int) := by omega
    have hn128 : n ≤ 128 := HN.out.2
    obtain ⟨nk, hnk, Hnk⟩ : ∃ j : Nat, j = n + k ∧ Shh ((j : Int) = (n : Int) + (k : Int) ∧ -9223372036854775808 ≤ (j : Int) ∧ (j : Int) ≤ 9223372036854775807) := ⟨_, rfl, ⟨by omega, by omega, by omega⟩⟩
    have hk2 : k < L2 := by have := HL.out; omega
    have hnk2 : nk < L2 := by have := HL.out; omega
    have h1 := HJ1.out k hlt
    have h2 := HJ2.out k hlt
    obtain ⟨h3, h4⟩ := HLB.out k hlt
    have HN1 := Shh.mk (jhf_next J n k L2)
    rw [← hnk] at h2 HN1
    clear hnk
    generalize J k = ja at *
    generalize J nk = jb at *
    generalize hlx : l k = x at *
    generalize hry : r k = y at *
    have HX := Shh.mk hlx
    have HY := Shh.mk hry
    clear hlx hry
    have hsb := HSB.out
    obtain ⟨p1, Hp1⟩ : ∃ v, Shh (v = x + y ∧ -9223372036854775808 ≤ v ∧ v ≤ 9223372036854775807) := ⟨_, ⟨rfl, by omega, by omega⟩⟩
    obtain ⟨p2, Hp2, hp2⟩ : ∃ v, Shh (v = p1.tmod 8380417 ∧ -9223372036854775808 ≤ v ∧ v ≤ 9223372036854775807) ∧ v = qd (x + y) := ⟨qd (x + y), ⟨by rw [Int.tmod_eq_emod_of_nonneg (by have := Hp1.out.1; omega), Hp1.out.1]; rfl, by have := qd_lt (x + y); omega, by have := qd_lt (x + y); omega⟩, rfl⟩
    have p2b : 0 ≤ p2 ∧ p2 < 8380417 := by rw [hp2]; exact qd_lt _
    rw [← hp2] at h1
    clear hp2
    obtain ⟨p3, Hp3⟩ : ∃ v, Shh (v = p2 * 4190209 ∧ -9223372036854775808 ≤ v ∧ v ≤ 9223372036854775807) := ⟨_, ⟨rfl, by omega, by omega⟩⟩
    have Hja : Shh (ja = p3.tmod 8380417 ∧ -9223372036854775808 ≤ ja ∧ ja ≤ 9223372036854775807) := ⟨by rw [h1, Int.tmod_eq_emod_of_nonneg (by have := Hp3.out.1; omega), Hp3.out.1]; rfl, by have := qd_lt (p2 * 4190209); omega, by have := qd_lt (p2 * 4190209); omega⟩
    obtain ⟨d1, Hd1⟩ : ∃ v, Shh (v = x - y ∧ -9223372036854775808 ≤ v ∧ v ≤ 9223372036854775807) := ⟨_, ⟨rfl, by omega, by omega⟩⟩
    obtain ⟨d2, hd2⟩ : ∃ v, v = qd (x - y) := ⟨_, rfl⟩
    have d2b : 0 ≤ d2 ∧ d2 < 8380417 := by rw [hd2]; exact qd_lt _
    have HMD : Shh (∀ W, Calls Try.prog 46 #[.int .i64 d1] W (I64Is W d2)) := ⟨fun W => by rw [hd2, ← Hd1.out.1]; exact refMod_any d1 Hd1.out.2 W⟩
    rw [← hd2] at h2
    clear hd2
    obtain ⟨d3, Hd3⟩ : ∃ v, Shh (v = d2 * s ∧ -9223372036854775808 ≤ v ∧ v ≤ 9223372036854775807) := ⟨_, ⟨rfl, by have := Int.mul_nonneg d2b.1 hsb.1; omega, by have : d2 * s ≤ 8380417 * 8380417 := Int.mul_le_mul (by omega) (by omega) hsb.1 (by decide); omega⟩⟩
    have Hjb : Shh (jb = d3.tmod 8380417 ∧ -9223372036854775808 ≤ jb ∧ jb ≤ 9223372036854775807) := ⟨by rw [h2, Int.tmod_eq_emod_of_nonneg (by rw [Hd3.out.1]; exact Int.mul_nonneg d2b.1 hsb.1), Hd3.out.1]; rfl, by have := qd_lt (d2 * s); omega, by have := qd_lt (d2 * s); omega⟩
    clear h1 h2 h3 h4 hsb p2b d2b
    go_wp2
    refine wp_region_held_drew (S := fun w' => SLq w' (G) (.slice (some ⟨g1, o1, none⟩) n c1) (n) (l) ∧ SLq w' (G) (.slice (some ⟨g2, o2, none⟩) n c2) (n) (r)) (by kernel_rfl) ⟨HI.out.1.drew, HI.out.2.1.drew⟩ (fun hS => ?_)
    clear hS
    obtain ⟨X10, hX10⟩ : ∃ V, V = World.drew wr := ⟨_, rfl⟩
    rw [← hX10]
    have HJ : Shh (SLq X10 (G) (.slice (some ⟨g1, o1, none⟩) n c1) (n) (l) ∧ SLq X10 (G) (.slice (some ⟨g2, o2, none⟩) n c2) (n) (r) ∧ Row X10 G 2 (lq L2 (jhf J n k)) ∧ Below N w X10 ∧ N ≤ G) := by
     obtain ⟨h0, h1, h2, h3, h4⟩ := HI.out
     rw [hX10]
     exact ⟨h0.drew, h1.drew, h2.drew, h3.drew, h4⟩
    clear hX10 HI
    refine hdv0 0 45 (.slice (some ⟨G, 0, none⟩) L2 L2) (by rfl) ⟨HJ.out.1, HJ.out.2.1⟩ ?_
    refine hdv0 1 46 (.int .i64 (k : Int)) (by rfl) ⟨HJ.out.1, HJ.out.2.1⟩ ?_
    refine hdv0 2 47 (.slice (some ⟨g1, o1, none⟩) n c1) (by rfl) ⟨HJ.out.1, HJ.out.2.1⟩ ?_
    refine hdv0 3 48 (.int .i64 (k : Int)) (by rfl) ⟨HJ.out.1, HJ.out.2.1⟩ ?_
    refine hdv 4 49 (.pointer (some ⟨g1, o1 + k, none⟩)) (by rfl) (fun w hS => at_q (c := c1) hlt rfl (by kernel_rfl) (by kernel_rfl)) ⟨HJ.out.1, HJ.out.2.1⟩ ?_
    refine hdv 5 50 (.int .i64 x) (by rfl) (fun w hS => load_l rfl ((hS.1.at_ hlt).trans (by rw [HX.out])) (by kernel_rfl)) ⟨HJ.out.1, HJ.out.2.1⟩ ?_
    refine hdv0 6 51 (.slice (some ⟨g2, o2, none⟩) n c2) (by rfl) ⟨HJ.out.1, HJ.out.2.1⟩ ?_
    refine hdv0 7 52 (.int .i64 (k : Int)) (by rfl) ⟨HJ.out.1, HJ.out.2.1⟩ ?_
    refine hdv 8 53 (.pointer (some ⟨g2, o2 + k, none⟩)) (by rfl) (fun w hS => at_q (c := c2) hlt rfl (by kernel_rfl) (by kernel_rfl)) ⟨HJ.out.1, HJ.out.2.1⟩ ?_
    refine hdv 9 54 (.int .i64 y) (by rfl) (fun w hS => load_l rfl ((hS.2.at_ hlt).trans (by rw [HY.out])) (by kernel_rfl)) ⟨HJ.out.1, HJ.out.2.1⟩ ?_
    refine hdv 10 55 (.int .i64 p1) (by rfl) (fun w hS => add_l Hp1.out rfl (by kernel_rfl) (by kernel_rfl)) ⟨HJ.out.1, HJ.out.2.1⟩ ?_
    refine hdv 11 56 (.int .i64 p2) (by rfl) (fun w hS => rem_l Hp2.out (by decide) rfl (by kernel_rfl) (by kernel_rfl)) ⟨HJ.out.1, HJ.out.2.1⟩ ?_
    refine hdv0 12 57 (.int .i64 4190209) (by rfl) ⟨HJ.out.1, HJ.out.2.1⟩ ?_
    refine hdv 13 58 (.int .i64 p3) (by rfl) (fun w hS => mul_l Hp3.out rfl (by kernel_rfl) (by kernel_rfl)) ⟨HJ.out.1, HJ.out.2.1⟩ ?_
    refine hdv 14 59 (.int .i64 ja) (by rfl) (fun w hS => rem_l Hja.out (by decide) rfl (by kernel_rfl) (by kernel_rfl)) ⟨HJ.out.1, HJ.out.2.1⟩ ?_
    refine hdv 15 60 (.pointer (some ⟨G, k, none⟩)) (by rfl) (fun w hS => at_q0 (c := L2) hk2 rfl (by kernel_rfl) (by kernel_rfl)) ⟨HJ.out.1, HJ.out.2.1⟩ ?_
    refine held_one 16 (by kernel_rfl) ?_
    refine step_storeQ 16 (v := ja) (by rfl) (by kernel_rfl) hk2 HJ.out.2.2.1 (by kernel_rfl) (by kernel_rfl) ?_
    intro w12 r13 bt11 zbt11
    have HK : Shh (SLq w12 (G) (.slice (some ⟨g1, o1, none⟩) n c1) (n) (l) ∧ SLq w12 (G) (.slice (some ⟨g2, o2, none⟩) n c2) (n) (r) ∧ Row w12 G 2 (lq L2 (dup (jhf J n k) k ja)) ∧ Below N w w12 ∧ N ≤ G) := by
     obtain ⟨h0, h1, h2, h3, h4⟩ := HJ.out
     have := h2.lt
     have hb := bt11.under (Nat.le_of_lt h2.lt) (Nat.le_refl _)
     have := hb.size
     exact ⟨h0.below (hb.mono (by omega)), h1.below (hb.mono (by omega)), r13, h3.trans (hb.mono (by omega)), h4⟩
    clear bt11 HJ r13 zbt11
    refine ⟨⟨HK.out.1, HK.out.2.1⟩, ?_⟩
    refine wpAnyH_done (by kernel_rfl) ?_ _
    go_wp2
    refine wp_region_held_drew (S := fun w' => SLq w' (G) (.slice (some ⟨g1, o1, none⟩) n c1) (n) (l) ∧ SLq w' (G) (.slice (some ⟨g2, o2, none⟩) n c2) (n) (r)) (by kernel_rfl) ⟨HK.out.1.drew, HK.out.2.1.drew⟩ (fun hS => ?_)
    clear hS
    obtain ⟨X14, hX14⟩ : ∃ V, V = World.drew w12 := ⟨_, rfl⟩
    rw [← hX14]
    have HL : Shh (SLq X14 (G) (.slice (some ⟨g1, o1, none⟩) n c1) (n) (l) ∧ SLq X14 (G) (.slice (some ⟨g2, o2, none⟩) n c2) (n) (r) ∧ Row X14 G 2 (lq L2 (dup (jhf J n k) k ja)) ∧ Below N w X14 ∧ N ≤ G) := by
     obtain ⟨h0, h1, h2, h3, h4⟩ := HK.out
     rw [hX14]
     exact ⟨h0.drew, h1.drew, h2.drew, h3.drew, h4⟩
    clear hX14 HK
    refine hdv0 0 61 (.slice (some ⟨G, 0, none⟩) L2 L2) (by rfl) ⟨HL.out.1, HL.out.2.1⟩ ?_
    refine hdv0 1 62 (.int .i64 (n : Int)) (by rfl) ⟨HL.out.1, HL.out.2.1⟩ ?_
    refine hdv0 2 63 (.int .i64 (k : Int)) (by rfl) ⟨HL.out.1, HL.out.2.1⟩ ?_
    refine hdv 3 64 (.int .i64 (nk : Int)) (by rfl) (fun w hS => add_n Hnk.out rfl (by kernel_rfl) (by kernel_rfl)) ⟨HL.out.1, HL.out.2.1⟩ ?_
    refine hdv0 4 65 (.slice (some ⟨g1, o1, none⟩) n c1) (by rfl) ⟨HL.out.1, HL.out.2.1⟩ ?_
    refine hdv0 5 66 (.int .i64 (k : Int)) (by rfl) ⟨HL.out.1, HL.out.2.1⟩ ?_
    refine hdv 6 67 (.pointer (some ⟨g1, o1 + k, none⟩)) (by rfl) (fun w hS => at_q (c := c1) hlt rfl (by kernel_rfl) (by kernel_rfl)) ⟨HL.out.1, HL.out.2.1⟩ ?_
    refine hdv 7 68 (.int .i64 x) (by rfl) (fun w hS => load_l rfl ((hS.1.at_ hlt).trans (by rw [HX.out])) (by kernel_rfl)) ⟨HL.out.1, HL.out.2.1⟩ ?_
    refine hdv0 8 69 (.slice (some ⟨g2, o2, none⟩) n c2) (by rfl) ⟨HL.out.1, HL.out.2.1⟩ ?_
    refine hdv0 9 70 (.int .i64 (k : Int)) (by rfl) ⟨HL.out.1, HL.out.2.1⟩ ?_
    refine hdv 10 71 (.pointer (some ⟨g2, o2 + k, none⟩)) (by rfl) (fun w hS => at_q (c := c2) hlt rfl (by kernel_rfl) (by kernel_rfl)) ⟨HL.out.1, HL.out.2.1⟩ ?_
    refine hdv 11 72 (.int .i64 y) (by rfl) (fun w hS => load_l rfl ((hS.2.at_ hlt).trans (by rw [HY.out])) (by kernel_rfl)) ⟨HL.out.1, HL.out.2.1⟩ ?_
    refine hdv 12 73 (.int .i64 d1) (by rfl) (fun w hS => sub_l Hd1.out rfl (by kernel_rfl) (by kernel_rfl)) ⟨HL.out.1, HL.out.2.1⟩ ?_
    refine hdv0 14 75 (.int .i64 s) (by rfl) ⟨HL.out.1, HL.out.2.1⟩ ?_
    refine held_one 13 (by kernel_rfl) ?_
    refine step_call 13 _ _ (some 74) 46 #[.int .i64 d1] (by rfl) (by kernel_rfl) (by first | kernel_rfl | go_simp) ?_
    refine (HMD.out X14).mono ?_
    rintro e w15 ⟨rfl, hq⟩
    obtain rfl : X14 = w15 := hq
    refine ⟨_, rfl, ⟨HL.out.1, HL.out.2.1⟩, ?_⟩
    simp only [Act.put, arr9, hd9, tl9]
    refine hdv 15 76 (.int .i64 d3) (by rfl) (fun w hS => mul_l Hd3.out rfl (by kernel_rfl) (by kernel_rfl)) ⟨HL.out.1, HL.out.2.1⟩ ?_
    refine hdv 16 77 (.int .i64 jb) (by rfl) (fun w hS => rem_l Hjb.out (by decide) rfl (by kernel_rfl) (by kernel_rfl)) ⟨HL.out.1, HL.out.2.1⟩ ?_
    refine hdv 17 78 (.pointer (some ⟨G, nk, none⟩)) (by rfl) (fun w hS => at_q0 (c := L2) hnk2 rfl (by kernel_rfl) (by kernel_rfl)) ⟨HL.out.1, HL.out.2.1⟩ ?_
    refine held_one 18 (by kernel_rfl) ?_
    refine step_storeQ 18 (v := jb) (by rfl) (by kernel_rfl) hnk2 HL.out.2.2.1 (by kernel_rfl) (by kernel_rfl) ?_
    intro w17 r18 bt16 zbt16
    have HM : Shh (SLq w17 (G) (.slice (some ⟨g1, o1, none⟩) n c1) (n) (l) ∧ SLq w17 (G) (.slice (some ⟨g2, o2, none⟩) n c2) (n) (r) ∧ Row w17 G 2 (lq L2 (jhf J n (k + 1))) ∧ Below N w w17 ∧ N ≤ G) := by
     obtain ⟨h0, h1, h2, h3, h4⟩ := HL.out
     have := h2.lt
     have hb := bt16.under (Nat.le_of_lt h2.lt) (Nat.le_refl _)
     have := hb.size
     rw [HN1.out] at r18
     exact ⟨h0.below (hb.mono (by omega)), h1.below (hb.mono (by omega)), r18, h3.trans (hb.mono (by omega)), h4⟩
    clear bt16 HL r18 zbt16
    refine ⟨⟨HM.out.1, HM.out.2.1⟩, ?_⟩
    refine wpAnyH_done (by kernel_rfl) ?_ _
    go_wp2
    go_roundw
    case rel => exact ⟨k + 1, by omega, by go_num, HM⟩
    case measure => simp [intOf]; omega
   ·have hlt2 : ¬ (k : Int) < (n : Int) := by omega
    have HJ : Shh (SLq wr (G) (.slice (some ⟨g1, o1, none⟩) n c1) (n) (l) ∧ SLq wr (G) (.slice (some ⟨g2, o2, none⟩) n c2) (n) (r) ∧ Row wr G 2 (lq L2 J) ∧ Below N w wr ∧ N ≤ G) := by
     have h := HI.out
     rw [show k = n by omega, HJA.out] at h
     exact ⟨h⟩
    clear HI
    go_wp2
    go_ret
    exact ⟨_, rfl, SLq.of_row HJ.out.2.2.1 HL5.out.2, HJ.out.2.2.2.1, ⟨G, rfl, HJ.out.2.2.2.2, HJ.out.2.2.1⟩⟩
end Go.Proofs.Ytapjiknedghhfaa
