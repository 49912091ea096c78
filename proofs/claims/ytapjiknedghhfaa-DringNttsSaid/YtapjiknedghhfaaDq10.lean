/-
 THE DOCUMENT'S FAST TRANSFORM: split and Ntt.
-/
import Derived.Test.YtapjiknedghhfaaDq9
import Derived.Test.YtapjiknedghhfaaDd6
import Derived.Test.YtapjiknedghhfaaDg5
namespace Go.Proofs.Ytapjiknedghhfaa
open Go.RowKit
set_option maxRecDepth 100000
theorem SLq.drew {w : World} {B n : Nat} {v : Value} {f : Nat → Int} (h : SLq w B v n f) : SLq (World.drew w) B v n f := h.below (Below.refl B w).drew
theorem OwnQ.drew {w : World} {B n : Nat} {v : Value} {f : Nat → Int} (h : OwnQ w B v n f) : OwnQ (World.drew w) B v n f := h.go (Below.refl w.heap.size w).drew
theorem SLq.at_ {w : World} {B g oo n c : Nat} {f : Nat → Int} (h : SLq w B (.slice (some ⟨g, oo, none⟩) n c) n f) {j : Nat} (hj : j < n) : w.cell? ⟨g, oo + j, none⟩ = some (.int .i64 (f j)) := by
 obtain ⟨g', o', c', e, _, _, _, _, h5⟩ := h
 cases e
 exact h5 j hj
theorem q_max {n : Nat} (h : n ≤ 1000) : n ≤ maxLen := by unfold maxLen; omega
set_option maxHeartbeats 8000000 in
theorem split_any : ∀ (m : Nat) (f : Nat → Int) (e B : Nat) (v : Value) (w : World), m ≤ 8 → e ≤ 512 → (∀ i, i < 2 ^ m → 0 ≤ f i ∧ f i < 8380417) → OwnQ w B v (2 ^ m) f → B ≤ w.heap.size → Calls Try.prog 53 #[v, .int .i64 (e : Int)] w (OwnQIs w B (2 ^ m) (splF m f e))
 | 0, f, e, B, v, w, _, _, _, hown, _ => by
  unfold OwnQIs
  have h2 : OwnQ w B v (2 ^ 0) (splF 0 f e) := hown
  rw [Nat.pow_zero] at *
  obtain ⟨g, oo, c, rfl, _⟩ := hown.read (by decide)
  have HO := Shh.mk h2
  clear h2 hown
  go_enter Try.func53, Try.ntmps53
  go_wp2
  go_ret
  exact ⟨_, rfl, HO.out, Below.refl _ _⟩
 | m + 1, f, e, B, v, w, hm, he, hf, hown, hB => by
  unfold OwnQIs
  have HS1 : Shh (∀ B v W, OwnQ W B v (2 ^ m) (loF (2 ^ m) f e) → B ≤ W.heap.size → Calls Try.prog 53 #[v, .int .i64 ((e / 2 : Nat) : Int)] W (OwnQIs W B (2 ^ m) (splF m (loF (2 ^ m) f e) (e / 2)))) := ⟨fun B v W h1 h2 => split_any m _ _ B v W (by omega) (by omega) (fun i _ => qd_lt _) h1 h2⟩
  have HS2 : Shh (∀ B v W, OwnQ W B v (2 ^ m) (hiF (2 ^ m) f e) → B ≤ W.heap.size → Calls Try.prog 53 #[v, .int .i64 ((e / 2 + 256 : Nat) : Int)] W (OwnQIs W B (2 ^ m) (splF m (hiF (2 ^ m) f e) (e / 2 + 256)))) := ⟨fun B v W h1 h2 => split_any m _ _ B v W (by omega) (by omega) (fun i _ => qd_lt _) h1 h2⟩
  have hspl : splF (m + 1) f e = fun x => if x < 2 ^ m then splF m (loF (2 ^ m) f e) (e / 2) x else splF m (hiF (2 ^ m) f e) (e / 2 + 256) (x - 2 ^ m) := funext fun _ => rfl
  rw [hspl]
  clear hspl
  have hn1 : 1 ≤ 2 ^ m := Nat.one_le_two_pow
  have hn2 : 2 ^ m ≤ 128 := Nat.le_trans (Nat.pow_le_pow_right (by decide) (show m ≤ 7 by omega)) (by decide)
  rw [Nat.pow_succ] at *
  have HPW : Shh (∀ W, Calls Try.prog 52 #[.int .i64 1753, .int .i64 ((e / 2 : Nat) : Int)] W (I64Is W (zI (e / 2)))) := ⟨fun W => refPowerD_any 1753 (e / 2) (by decide) (by omega) W⟩
  have HZ := Shh.mk (zI_lt (e / 2))
  have HLO : Shh (∀ i, loF (2 ^ m) f e i = qd (f i + qd (f (2 ^ m + i) * zI (e / 2)))) := ⟨fun _ => rfl⟩
  have HHI : Shh (∀ i, hiF (2 ^ m) f e i = qd (f i - qd (f (2 ^ m + i) * zI (e / 2)))) := ⟨fun _ => rfl⟩
  have HE : Shh (((e / 2 : Nat) : Int) = (e : Int).tdiv 2 ∧ -9223372036854775808 ≤ ((e / 2 : Nat) : Int) ∧ ((e / 2 : Nat) : Int) ≤ 9223372036854775807) := ⟨by rw [Int.tdiv_eq_ediv_of_nonneg (by omega)]; omega, by omega, by omega⟩
  have HE3 : Shh (((e / 2 + 256 : Nat) : Int) = ((e / 2 : Nat) : Int) + 256 ∧ -9223372036854775808 ≤ ((e / 2 + 256 : Nat) : Int) ∧ ((e / 2 + 256 : Nat) : Int) ≤ 9223372036854775807) := ⟨by omega, by omega, by omega⟩
  generalize zI (e / 2) = z at *
  generalize e / 2 + 256 = e3 at *
  generalize e / 2 = e2 at *
  generalize splF m (loF (2 ^ m) f e) e2 = r1 at *
  generalize splF m (hiF (2 ^ m) f e) e3 = r2 at *
  generalize hiF (2 ^ m) f e = hi at *
  generalize loF (2 ^ m) f e = lo at *
  generalize 2 ^ m = n at *
  have HF := Shh.mk hf
  have HN : Shh (1 ≤ n ∧ n ≤ 128) := ⟨hn1, hn2⟩
  generalize hN : w.heap.size = N at *
  obtain ⟨L2, hL2⟩ : ∃ L, L = n * 2 := ⟨_, rfl⟩
  rw [← hL2] at hown HF
  have hr := hown.read (by omega)
  rw [hN] at hr
  have HL : Shh (L2 = n * 2) := ⟨hL2⟩
  obtain ⟨g, oo, c, rfl, _⟩ := id hr
  have FA : Shh (SLq w N (.slice (some ⟨g, oo, none⟩) L2 c) L2 f ∧ Below N w w ∧ N ≤ w.heap.size) := ⟨hr, Below.refl _ _, by omega⟩
  have HB := Shh.mk hB
  have HQ : Shh ((n : Int) = (L2 : Int).tdiv 2 ∧ -9223372036854775808 ≤ (n : Int) ∧ (n : Int) ≤ 9223372036854775807) := ⟨by rw [Int.tdiv_eq_ediv_of_nonneg (by omega)]; omega, by omega, by omega⟩
  have HNZ : Shh (((n : Int) == 0) = false) := ⟨by simp; omega⟩
  have HL5 : Shh (n ≤ 35184372088832 ∧ n ≤ maxLen) := ⟨by omega, q_max (by omega)⟩
  rw [← hL2]
  clear hf hown hr hm he hB hn1 hn2 hL2
  go_enter Try.func53, Try.ntmps53
  go_wp2_with (first | refine wl_at 13 rfl (.int .i64 (n : Int)) rfl (quo_n HQ.out (by decide) rfl rfl rfl) ?_ | refine wl_at 15 rfl (.bool false) rfl (eql_n false HNZ.out rfl rfl rfl) ?_ | refine wl_at 18 rfl (.int .i64 (e2 : Int)) rfl (quo_l HE.out (by decide) rfl rfl rfl) ?_ | (go_at_call 52; refine (HPW.out _).mono ?_))
  rintro e w1 ⟨rfl, hq⟩
  subst hq
  clear HPW HQ HNZ
  go_wp2
  refine wp_region_held_drew (S := fun w' => True) (by kernel_rfl) trivial (fun hS => ?_)
  clear hS
  obtain ⟨X1, hX1⟩ : ∃ V, V = World.drew w := ⟨_, rfl⟩
  rw [← hX1]
  have FB : Shh (SLq X1 (N) (.slice (some ⟨g, oo, none⟩) L2 c) (L2) (f) ∧ Below N w X1 ∧ N ≤ X1.heap.size) := by
   obtain ⟨h0, h1, h2⟩ := FA.out
   rw [hX1]
   exact ⟨h0.drew, h1.drew, h2⟩
  clear hX1 FA
  refine share (T := ?T9) (fun hT => ?gg9) ?tt9
  case gg9 =>
   have FY := FB
   refine hdv0 0 20 (.int .i64 (n : Int)) (by rfl) trivial ?_
   refine hdv0 2 22 (.int .i64 (n : Int)) (by rfl) trivial ?_
   refine held_two 1 3 (by kernel_rfl) ?_ ?_
   ·refine step_makeQ n HL5.out.1 1 21 (by rfl) (by kernel_rfl) (by kernel_rfl) (by kernel_rfl) ?_
    intro G7 w3 hG7 r4 b2
    have FZ : Shh (SLq w3 (N) (.slice (some ⟨g, oo, none⟩) L2 c) (L2) (f) ∧ Below N w w3 ∧ N ≤ w3.heap.size ∧ Row w3 G7 2 (lq n fun _ => 0) ∧ N ≤ G7 ∧ N ≤ N) := by
     obtain ⟨h0, h1, h2⟩ := FY.out
     have := b2.size
     have := hG7.out
     exact ⟨h0.below (b2.mono (by omega)), h1.trans (b2.mono (by omega)), (by omega), r4, (by omega), (by omega)⟩
    clear b2 FY r4 hG7
    refine ⟨trivial, ?_⟩
    try simp only [Act.put, arr9, hd9, tl9]
    refine hdv0 4 7 (.slice (some ⟨G7, 0, none⟩) n n) (by rfl) trivial ?_
    refine held_one 3 (by kernel_rfl) ?_
    refine step_makeQ n HL5.out.1 3 23 (by rfl) (by kernel_rfl) (by kernel_rfl) (by kernel_rfl) ?_
    intro G8 w6 hG8 r7 b5
    have FA : Shh (SLq w6 (N) (.slice (some ⟨g, oo, none⟩) L2 c) (L2) (f) ∧ Below N w w6 ∧ N ≤ w6.heap.size ∧ Row w6 G7 2 (lq n fun _ => 0) ∧ N ≤ G7 ∧ N ≤ N ∧ Row w6 G8 2 (lq n fun _ => 0) ∧ N ≤ G8 ∧ G7 ≠ G8) := by
     obtain ⟨h0, h1, h2, h3, h4, h5⟩ := FZ.out
     have := h3.lt
     have := b5.size
     have := hG8.out
     exact ⟨h0.below (b5.mono (by omega)), h1.trans (b5.mono (by omega)), (by omega), h3.go b5, h4, h5, r7, (by omega), (by omega)⟩
    clear b5 FZ r7 hG8
    refine ⟨trivial, ?_⟩
    try simp only [Act.put, arr9, hd9, tl9]
    refine hdv0 5 8 (.slice (some ⟨G8, 0, none⟩) n n) (by rfl) trivial ?_
    refine wpAnyH_done (by kernel_rfl) ?_ _
    have FB : Shh (SLq w6 (N) (.slice (some ⟨g, oo, none⟩) L2 c) (L2) (f) ∧ Below N w w6 ∧ Row w6 G7 2 (lq n fun _ => 0) ∧ Row w6 G8 2 (lq n fun _ => 0) ∧ N ≤ G7 ∧ N ≤ G8 ∧ G7 ≠ G8) := by
     obtain ⟨h0, h1, h2, h3, h4, h5, h6, h7, h8⟩ := FA.out
     exact ⟨⟨h0, h1, h3, h6, h4, h7, h8⟩⟩
    clear FA
    have HZZ := FB
    clear FB
    revert HZZ
    revert w6
    revert G8
    revert G7
    exact hT.out
   ·refine step_makeQ n HL5.out.1 3 23 (by rfl) (by kernel_rfl) (by kernel_rfl) (by kernel_rfl) ?_
    intro G8 w3 hG8 r4 b2
    have FZ : Shh (SLq w3 (N) (.slice (some ⟨g, oo, none⟩) L2 c) (L2) (f) ∧ Below N w w3 ∧ N ≤ w3.heap.size ∧ Row w3 G8 2 (lq n fun _ => 0) ∧ N ≤ G8 ∧ N ≤ N) := by
     obtain ⟨h0, h1, h2⟩ := FY.out
     have := b2.size
     have := hG8.out
     exact ⟨h0.below (b2.mono (by omega)), h1.trans (b2.mono (by omega)), (by omega), r4, (by omega), (by omega)⟩
    clear b2 FY r4 hG8
    refine ⟨trivial, ?_⟩
    try simp only [Act.put, arr9, hd9, tl9]
    refine held_one 1 (by kernel_rfl) ?_
    refine step_makeQ n HL5.out.1 1 21 (by rfl) (by kernel_rfl) (by kernel_rfl) (by kernel_rfl) ?_
    intro G7 w6 hG7 r7 b5
    have FA : Shh (SLq w6 (N) (.slice (some ⟨g, oo, none⟩) L2 c) (L2) (f) ∧ Below N w w6 ∧ N ≤ w6.heap.size ∧ Row w6 G8 2 (lq n fun _ => 0) ∧ N ≤ G8 ∧ N ≤ N ∧ Row w6 G7 2 (lq n fun _ => 0) ∧ N ≤ G7 ∧ G7 ≠ G8) := by
     obtain ⟨h0, h1, h2, h3, h4, h5⟩ := FZ.out
     have := h3.lt
     have := b5.size
     have := hG7.out
     exact ⟨h0.below (b5.mono (by omega)), h1.trans (b5.mono (by omega)), (by omega), h3.go b5, h4, h5, r7, (by omega), (by omega)⟩
    clear b5 FZ r7 hG7
    refine ⟨trivial, ?_⟩
    try simp only [Act.put, arr9, hd9, tl9]
    refine hdv0 4 7 (.slice (some ⟨G7, 0, none⟩) n n) (by rfl) trivial ?_
    refine hdv0 5 8 (.slice (some ⟨G8, 0, none⟩) n n) (by rfl) trivial ?_
    refine wpAnyH_done (by kernel_rfl) ?_ _
    have FB : Shh (SLq w6 (N) (.slice (some ⟨g, oo, none⟩) L2 c) (L2) (f) ∧ Below N w w6 ∧ Row w6 G7 2 (lq n fun _ => 0) ∧ Row w6 G8 2 (lq n fun _ => 0) ∧ N ≤ G7 ∧ N ≤ G8 ∧ G7 ≠ G8) := by
     obtain ⟨h0, h1, h2, h3, h4, h5, h6, h7, h8⟩ := FA.out
     exact ⟨⟨h0, h1, h6, h3, h7, h4, h8⟩⟩
    clear FA
    have HZZ := FB
    clear FB
    revert HZZ
    revert w6
    revert G8
    revert G7
    exact hT.out
  case tt9 =>
   clear FB
   intro G7 G8 Z HZZ
   go_wp2
   go_loopw [25] (fun i wr => ∃ k : Nat, k ≤ n ∧ i = .int .i64 (k : Int) ∧ Shh (SLq wr (N) (.slice (some ⟨g, oo, none⟩) L2 c) (L2) (f) ∧ Below N w wr ∧ Row wr G7 2 (lq n (dhf lo (fun _ => 0) k)) ∧ Row wr G8 2 (lq n (dhf hi (fun _ => 0) k)) ∧ N ≤ G7 ∧ N ≤ G8 ∧ G7 ≠ G8)) (fun i _ => n - (intOf i).toNat)
   case atStart => exact ⟨0, Nat.zero_le _, rfl, ⟨by simp only [qhf_zero]; exact HZZ.out⟩⟩
   case round =>
    clear HZZ
    obtain ⟨k, hk, rfl, HI⟩ := hrel
    by_cases hlt : k < n
    ·have hlt2 : (k : Int) < (n : Int) := by omega
     have hn128 : n ≤ 128 := HN.out.2
     obtain ⟨nk, hnk, Hnk⟩ : ∃ j : Nat, j = n + k ∧ Shh ((j : Int) = (n : Int) + (k : Int) ∧ -9223372036854775808 ≤ (j : Int) ∧ (j : Int) ≤ 9223372036854775807) := ⟨_, rfl, ⟨by omega, by omega, by have := HN.out; omega⟩⟩
     have hk2 : k < L2 := by have := HL.out; omega
     have hnk2 : nk < L2 := by have := HL.out; omega
     have HL1 := Shh.mk (HI.out.1.at_ hk2)
     have HL2 := Shh.mk (HI.out.1.at_ hnk2)
     have h1 := HLO.out k
     have h2 := HHI.out k
     have h3 := HF.out k (by have := HL.out; omega)
     have h4 := HF.out nk (by have := HL.out; omega)
     rw [← hnk] at h1 h2
     have HN1 := Shh.mk (qhf_next n lo (fun _ => 0) k)
     have HN2 := Shh.mk (qhf_next n hi (fun _ => 0) k)
     clear hnk
     generalize lo k = lk at *
     generalize hi k = hk1 at *
     generalize hfx : f k = x at *
     have HFX := Shh.mk hfx
     clear hfx
     generalize f nk = y at *
     have hz := HZ.out
     obtain ⟨u, Hu⟩ : ∃ u, Shh (u = y * z ∧ -9223372036854775808 ≤ u ∧ u ≤ 9223372036854775807) := ⟨_, ⟨rfl, by have := Int.mul_nonneg h4.1 hz.1; omega, by have : y * z ≤ 8380417 * 8380417 := Int.mul_le_mul (by omega) (by omega) hz.1 (by decide); omega⟩⟩
     obtain ⟨t, Ht, ht⟩ : ∃ t, Shh (t = u.tmod 8380417 ∧ -9223372036854775808 ≤ t ∧ t ≤ 9223372036854775807) ∧ t = qd (y * z) := ⟨qd (y * z), ⟨by rw [Hu.out.1, Int.tmod_eq_emod_of_nonneg (Int.mul_nonneg h4.1 hz.1)]; rfl, by have := qd_lt (y * z); omega, by have := qd_lt (y * z); omega⟩, rfl⟩
     rw [← ht] at h1 h2
     have h5 : 0 ≤ t ∧ t < 8380417 := by rw [ht]; exact qd_lt _
     clear ht
     obtain ⟨s, Hs⟩ : ∃ s, Shh (s = x + t ∧ -9223372036854775808 ≤ s ∧ s ≤ 9223372036854775807) := ⟨_, ⟨rfl, by omega, by omega⟩⟩
     have Hlk : Shh (lk = s.tmod 8380417 ∧ -9223372036854775808 ≤ lk ∧ lk ≤ 9223372036854775807) := ⟨by rw [h1, Int.tmod_eq_emod_of_nonneg (by have := Hs.out.1; omega), Hs.out.1]; rfl, by have := qd_lt (x + t); omega, by have := qd_lt (x + t); omega⟩
     obtain ⟨d, Hd⟩ : ∃ s, Shh (s = x - t ∧ -9223372036854775808 ≤ s ∧ s ≤ 9223372036854775807) := ⟨_, ⟨rfl, by omega, by omega⟩⟩
     have HMD : Shh (∀ W, Calls Try.prog 46 #[.int .i64 d] W (I64Is W hk1)) := ⟨fun W => by rw [h2, ← Hd.out.1]; exact refMod_any d Hd.out.2 W⟩
     clear h1 h2 h3 h4 h5 hz
     go_wp2_with (first | refine wl_at 31 rfl (.int .i64 (nk : Int)) rfl (add_n Hnk.out rfl rfl rfl) ?_ | refine wl_at 32 rfl (.pointer (some ⟨g, oo + nk, none⟩)) rfl (at_q hnk2 rfl rfl rfl) ?_ | refine wl_at 33 rfl (.int .i64 y) rfl (load_l rfl HL2.out rfl) ?_ | refine wl_at 35 rfl (.int .i64 u) rfl (mul_l Hu.out rfl rfl rfl) ?_ | refine wl_at 36 rfl (.int .i64 t) rfl (rem_l Ht.out (by decide) rfl rfl rfl) ?_ | refine wl_at 41 rfl (.pointer (some ⟨g, oo + k, none⟩)) rfl (at_q hk2 rfl rfl rfl) ?_ | refine wl_at 42 rfl (.int .i64 x) rfl (load_l rfl HL1.out rfl) ?_ | refine wl_at 44 rfl (.int .i64 s) rfl (add_l Hs.out rfl rfl rfl) ?_ | refine wl_at 45 rfl (.int .i64 lk) rfl (rem_l Hlk.out (by decide) rfl rfl rfl) ?_ | refine wl_at 46 rfl (.pointer (some ⟨G7, k, none⟩)) rfl (at_q0 hlt rfl rfl rfl) ?_ | refine wl_storeQ rfl hlt rfl rfl rfl HI.out.2.2.1 ?_)
     intro w2 r3 bt4 zbt4
     rw [HN1.out] at r3
     have HJ : Shh (SLq w2 (N) (.slice (some ⟨g, oo, none⟩) L2 c) (L2) (f) ∧ Below N w w2 ∧ Row w2 G7 2 (lq n (dhf lo (fun _ => 0) (k + 1))) ∧ Row w2 G8 2 (lq n (dhf hi (fun _ => 0) k)) ∧ N ≤ G7 ∧ N ≤ G8 ∧ G7 ≠ G8) := by
      obtain ⟨h0, h1, h2, h3, h4, h5, h6⟩ := HI.out
      have := h2.lt
      have := h3.lt
      have hb := bt4.under (Nat.le_of_lt h2.lt) (Nat.le_refl _)
      have := hb.size
      exact ⟨h0.below (hb.mono (by omega)), h1.trans (hb.mono (by omega)), r3, bt4.row h3 h3.lt (by omega), h4, h5, h6⟩
     clear bt4 HI r3 zbt4 HL1 HL2
     have HL1 : Shh (w2.cell? ⟨g, oo + k, none⟩ = some (.int .i64 x)) := ⟨by rw [← HFX.out]; exact HJ.out.1.at_ hk2⟩
     go_wp2_with (first | refine wl_at 51 rfl (.pointer (some ⟨g, oo + k, none⟩)) rfl (at_q hk2 rfl rfl rfl) ?_ | refine wl_at 52 rfl (.int .i64 x) rfl (load_l rfl HL1.out rfl) ?_ | refine wl_at 54 rfl (.int .i64 d) rfl (sub_l Hd.out rfl rfl rfl) ?_ | (go_at_call 46; refine (HMD.out _).mono ?_))
     rintro e w5 ⟨rfl, rfl⟩
     go_wp2_with (first | refine wl_at 56 rfl (.pointer (some ⟨G8, k, none⟩)) rfl (at_q0 hlt rfl rfl rfl) ?_ | refine wl_storeQ rfl hlt rfl rfl rfl HJ.out.2.2.2.1 ?_)
     intro w6 r7 bt8 zbt8
     rw [HN2.out] at r7
     have HK : Shh (SLq w6 (N) (.slice (some ⟨g, oo, none⟩) L2 c) (L2) (f) ∧ Below N w w6 ∧ Row w6 G7 2 (lq n (dhf lo (fun _ => 0) (k + 1))) ∧ Row w6 G8 2 (lq n (dhf hi (fun _ => 0) (k + 1))) ∧ N ≤ G7 ∧ N ≤ G8 ∧ G7 ≠ G8) := by
      obtain ⟨h0, h1, h2, h3, h4, h5, h6⟩ := HJ.out
      have := h2.lt
      have := h3.lt
      have hb := bt8.under (Nat.le_of_lt h3.lt) (Nat.le_refl _)
      have := hb.size
      exact ⟨h0.below (hb.mono (by omega)), h1.trans (hb.mono (by omega)), bt8.row h2 h2.lt (by omega), r7, h4, h5, h6⟩
     clear bt8 HJ r7 zbt8 HL1
     go_wp2
     go_roundw
     case rel => exact ⟨k + 1, by omega, by go_num, HK⟩
     case measure => simp [intOf]; omega
    ·have hlt2 : ¬ (k : Int) < (n : Int) := by omega
     have HJ : Shh (SLq wr (N) (.slice (some ⟨g, oo, none⟩) L2 c) (L2) (f) ∧ Below N w wr ∧ Row wr G7 2 (lq n lo) ∧ Row wr G8 2 (lq n hi) ∧ N ≤ G7 ∧ N ≤ G8 ∧ G7 ≠ G8) := by
      have h := HI.out
      rw [show k = n by omega] at h
      simp only [qhf_all] at h
      exact ⟨h⟩
     clear HI
     have hpN := HJ.out.2.2.2.2.1
     have hpM := HJ.out.2.2.2.2.2.1
     go_wp2_with (first | refine wl_at 60 rfl (.int .i64 (e2 : Int)) rfl (quo_l HE.out (by decide) rfl rfl rfl) ?_ | (go_at_call 53; refine (HS1.out N _ _ ((OwnQ.of_row HJ.out.2.2.1 HL5.out.2).base (by omega)) (by have := (HJ.out.2.1).size; omega)).mono ?_))
     rintro e w2 ⟨v1, rfl, ownv1, b3⟩
     have HK : Shh (SLq w2 (N) (.slice (some ⟨g, oo, none⟩) L2 c) (L2) (f) ∧ Below N w w2 ∧ Row w2 G7 2 (lq n lo) ∧ Row w2 G8 2 (lq n hi) ∧ N ≤ G7 ∧ N ≤ G8 ∧ G7 ≠ G8 ∧ OwnQ w2 (N) (v1) (n) (r1)) := by
      obtain ⟨h0, h1, h2, h3, h4, h5, h6⟩ := HJ.out
      have := h2.lt
      have := h3.lt
      have := b3.size
      exact ⟨h0.below (b3.mono (by omega)), h1.trans (b3.mono (by omega)), h2.go b3, h3.go b3, h4, h5, h6, ownv1⟩
     clear b3 HJ ownv1
     go_wp2_with (first | refine wl_at 64 rfl (.int .i64 (e2 : Int)) rfl (quo_l HE.out (by decide) rfl rfl rfl) ?_ | refine wl_at 65 rfl (.int .i64 (e3 : Int)) rfl (add_l HE3.out rfl rfl rfl) ?_ | (go_at_call 53; refine (HS2.out N _ _ ((OwnQ.of_row HK.out.2.2.2.1 HL5.out.2).base (by omega)) (by have := (HK.out.2.1).size; omega)).mono ?_))
     rintro e w4 ⟨v2, rfl, ownv2, b5⟩
     have HL : Shh (SLq w4 (N) (.slice (some ⟨g, oo, none⟩) L2 c) (L2) (f) ∧ Below N w w4 ∧ Row w4 G7 2 (lq n lo) ∧ Row w4 G8 2 (lq n hi) ∧ N ≤ G7 ∧ N ≤ G8 ∧ G7 ≠ G8 ∧ OwnQ w4 (N) (v1) (n) (r1) ∧ OwnQ w4 (N) (v2) (n) (r2)) := by
      obtain ⟨h0, h1, h2, h3, h4, h5, h6, h7⟩ := HK.out
      have := h2.lt
      have := h3.lt
      have := b5.size
      exact ⟨h0.below (b5.mono (by omega)), h1.trans (b5.mono (by omega)), h2.go b5, h3.go b5, h4, h5, h6, h7.go b5, ownv2⟩
     clear b5 HK ownv2
     go_wp2_with (refine wl_appendQ rfl 67 rfl (.tmp 61) (.tmp 66) rfl HL.out.2.2.2.2.2.2.2.1 rfl rfl (HL.out.2.2.2.2.2.2.2.2.read HN.out.1) (by have := HN.out; omega) (by have := (HL.out.2.1).size; omega) ?_)
     intro v3 w3 own3 b3
     have HFI : Shh (OwnQ w3 N v3 (n + n) (fun x => if x < n then r1 x else r2 (x - n)) ∧ Below N w w3) := ⟨own3, (HL.out.2.1).trans b3⟩
     clear own3 b3 HL
     go_wp2
     go_ret
     exact ⟨_, rfl, by have h := HFI.out.1.base HB.out; rw [show n + n = L2 by have := HL.out; omega] at h; exact h, HFI.out.2⟩
end Go.Proofs.Ytapjiknedghhfaa
