/-
 THE DOCUMENT'S TRANSFORM, sum by sum: power and Direct.
-/
import Derived.Test.YtapjiknedghhfaaDq1
import Derived.Test.YtapjiknedghhfaaDd4
import Derived.Test.YtapjiknedghhfaaDg4
namespace Go.Proofs.Ytapjiknedghhfaa
open Go.RowKit
set_option maxRecDepth 100000
set_option maxHeartbeats 2000000 in
theorem refPowerD_any (x : Int) (n : Nat) (hx : 0 ≤ x ∧ x < 8380417) (hn : n ≤ 1000000) (w : World) : Calls Try.prog 52 #[.int .i64 x, .int .i64 (n : Int)] w (I64Is w (qd (x ^ n))) := by
 unfold I64Is
 have HX := Shh.mk hx
 clear hx
 go_enter Try.func52, Try.ntmps52
 go_wp2
 go_loopw [0, 1, 5] (fun a b c wr => ∃ (m : Nat) (y u : Int), a = .int .i64 y ∧ b = .int .i64 (m : Int) ∧ c = .int .i64 u ∧ Shh ((0 ≤ y ∧ y < 8380417) ∧ (0 ≤ u ∧ u < 8380417) ∧ qM (u * y ^ m) (x ^ n) ∧ m ≤ n) ∧ wr = w) (fun _ b _ _ => (intOf b).toNat)
 case atStart => exact ⟨n, x, 1, rfl, rfl, rfl, ⟨HX.out, by decide, qM.of (Int.one_mul _), Nat.le_refl _⟩, rfl⟩
 case round =>
  obtain ⟨m, y, u, rfl, rfl, rfl, HI, rfl⟩ := hrel
  by_cases hm : 0 < m
  ·have hm2 : (0 : Int) < (m : Int) := by omega
   have hml := HI.out.2.2.2
   have h1 := HI.out.1
   have h2 := HI.out.2.1
   obtain ⟨s, Hs⟩ : ∃ s, Shh (s = y * y ∧ -9223372036854775808 ≤ s ∧ s ≤ 9223372036854775807) := ⟨_, ⟨rfl, by have := Int.mul_nonneg h1.1 h1.1; omega, by have : y * y ≤ 8380417 * 8380417 := Int.mul_le_mul (by omega) (by omega) h1.1 (by decide); omega⟩⟩
   have HS2 : Shh (qd (y * y) = s.tmod 8380417 ∧ -9223372036854775808 ≤ (qd (y * y)) ∧ (qd (y * y)) ≤ 9223372036854775807) := by
    have h5 := qd_lt (y * y)
    refine ⟨⟨?_, by omega, by omega⟩⟩
    rw [Hs.out.1, Int.tmod_eq_emod_of_nonneg (Int.mul_nonneg h1.1 h1.1)]
    rfl
   obtain ⟨d, Hd, hd⟩ : ∃ d : Nat, Shh ((d : Int) = (m : Int).tdiv 2 ∧ -9223372036854775808 ≤ (d : Int) ∧ (d : Int) ≤ 9223372036854775807) ∧ d = m / 2 := ⟨m / 2, ⟨by rw [Int.tdiv_eq_ediv_of_nonneg (by omega)]; omega, by omega, by omega⟩, rfl⟩
   by_cases hp : m % 2 = 1
   ·have HR : Shh ((1 : Int) = (m : Int).tmod 2 ∧ (-9223372036854775808 : Int) ≤ 1 ∧ (1 : Int) ≤ 9223372036854775807) := ⟨by rw [Int.tmod_eq_emod_of_nonneg (by omega)]; omega, by decide, by decide⟩
    obtain ⟨t, Ht⟩ : ∃ t, Shh (t = u * y ∧ -9223372036854775808 ≤ t ∧ t ≤ 9223372036854775807) := ⟨_, ⟨rfl, by have := Int.mul_nonneg h2.1 h1.1; omega, by have : u * y ≤ 8380417 * 8380417 := Int.mul_le_mul (by omega) (by omega) h1.1 (by decide); omega⟩⟩
    have HT2 : Shh (qd (u * y) = t.tmod 8380417 ∧ -9223372036854775808 ≤ (qd (u * y)) ∧ (qd (u * y)) ≤ 9223372036854775807) := by
     have h5 := qd_lt (u * y)
     refine ⟨⟨?_, by omega, by omega⟩⟩
     rw [Ht.out.1, Int.tmod_eq_emod_of_nonneg (Int.mul_nonneg h2.1 h1.1)]
     rfl
    have HN : Shh ((0 ≤ qd (y * y) ∧ qd (y * y) < 8380417) ∧ (0 ≤ qd (u * y) ∧ qd (u * y) < 8380417) ∧ qM (qd (u * y) * qd (y * y) ^ d) (x ^ n) ∧ d ≤ n) := by
     refine ⟨⟨qd_lt _, qd_lt _, ?_, by omega⟩⟩
     refine ((qM_qd _).mul ((qM_qd _).pow d)).trans ((qM.of ?_).trans HI.out.2.2.1)
     rw [show m = 2 * d + 1 by omega, Int.pow_succ, Int.pow_mul, show y ^ 2 = y * y by rw [Int.pow_succ, Int.pow_succ, Int.pow_zero, Int.one_mul]]
     grind
    generalize qd (y * y) = y2 at *
    generalize qd (u * y) = u2 at *
    have hdm := Shh.mk (show d < m by omega)
    clear h1 h2 HI hp hd hml
    go_wp2_with (first | refine wl_at 11 rfl (.int .i64 1) rfl (rem_l HR.out (by decide) rfl rfl rfl) ?_ | refine wl_at 12 rfl (.bool true) rfl (eql_l true rfl rfl rfl rfl) ?_ | refine wl_at 15 rfl (.int .i64 t) rfl (mul_l Ht.out rfl rfl rfl) ?_ | refine wl_at 16 rfl (.int .i64 u2) rfl (rem_l HT2.out (by decide) rfl rfl rfl) ?_ | refine wl_at 19 rfl (.int .i64 s) rfl (mul_l Hs.out rfl rfl rfl) ?_ | refine wl_at 20 rfl (.int .i64 y2) rfl (rem_l HS2.out (by decide) rfl rfl rfl) ?_ | refine wl_at 9 rfl (.int .i64 (d : Int)) rfl (quo_l Hd.out (by decide) rfl rfl rfl) ?_)
    go_roundw
    case rel => exact ⟨d, y2, u2, rfl, rfl, rfl, HN, trivial⟩
    case measure => (have := hdm.out; simp [intOf]; omega)
   ·have HR : Shh ((0 : Int) = (m : Int).tmod 2 ∧ (-9223372036854775808 : Int) ≤ 0 ∧ (0 : Int) ≤ 9223372036854775807) := ⟨by rw [Int.tmod_eq_emod_of_nonneg (by omega)]; omega, by decide, by decide⟩
    have HN : Shh ((0 ≤ qd (y * y) ∧ qd (y * y) < 8380417) ∧ (0 ≤ u ∧ u < 8380417) ∧ qM (u * qd (y * y) ^ d) (x ^ n) ∧ d ≤ n) := by
     refine ⟨⟨qd_lt _, h2, ?_, by omega⟩⟩
     refine ((qM.of rfl).mul ((qM_qd _).pow d)).trans ((qM.of ?_).trans HI.out.2.2.1)
     rw [show m = 2 * d by omega, Int.pow_mul, show y ^ 2 = y * y by rw [Int.pow_succ, Int.pow_succ, Int.pow_zero, Int.one_mul]]
    generalize qd (y * y) = y2 at *
    have hdm := Shh.mk (show d < m by omega)
    clear h1 h2 HI hp hd hml
    go_wp2_with (first | refine wl_at 11 rfl (.int .i64 0) rfl (rem_l HR.out (by decide) rfl rfl rfl) ?_ | refine wl_at 12 rfl (.bool false) rfl (eql_l false rfl rfl rfl rfl) ?_ | refine wl_at 19 rfl (.int .i64 s) rfl (mul_l Hs.out rfl rfl rfl) ?_ | refine wl_at 20 rfl (.int .i64 y2) rfl (rem_l HS2.out (by decide) rfl rfl rfl) ?_ | refine wl_at 9 rfl (.int .i64 (d : Int)) rfl (quo_l Hd.out (by decide) rfl rfl rfl) ?_)
    go_roundw
    case rel => exact ⟨d, y2, u, rfl, rfl, rfl, HN, trivial⟩
    case measure => (have := hdm.out; simp [intOf]; omega)
  ·have hm2 : ¬ (0 : Int) < (m : Int) := by omega
   have HE : Shh (u = qd (x ^ n)) := by
    have h := HI.out.2.2.1
    rw [show m = 0 by omega, Int.pow_zero, Int.mul_one] at h
    exact ⟨((qd_of h).symm.trans (qd_small HI.out.2.1)).symm⟩
   clear HI
   go_wp2
   go_ret
   exact ⟨ret_int HE.out, rfl⟩
/-- the sum by Horner's rule, from number 255 down -/
def hzD (g : Int) (c : Nat → Int) : Nat → Int
 | 0 => 0
 | m + 1 => qd (hzD g c m * g + c (255 - m))
theorem hzD_lt (g : Int) (c : Nat → Int) : ∀ m, 0 ≤ hzD g c m ∧ hzD g c m < 8380417
 | 0 => by show (0 : Int) ≤ 0 ∧ (0 : Int) < 8380417; decide
 | _ + 1 => qd_lt _
theorem rS_firstD (f : Nat → Int) : ∀ n, rS (n + 1) f = f 0 + rS n (fun t => f (t + 1))
 | 0 => by show 0 + f 0 = f 0 + 0; omega
 | n + 1 => by
  show rS (n + 1) f + f (n + 1) = f 0 + (rS n (fun t => f (t + 1)) + f (n + 1))
  rw [rS_firstD f n]
  omega
theorem hzD_sum (g : Int) (c : Nat → Int) : ∀ m, m ≤ 256 → qM (hzD g c m) (rS m (fun t => c (256 - m + t) * g ^ t))
 | 0, _ => rfl
 | m + 1, h => by
  have ih := hzD_sum g c m (by omega)
  rw [rS_firstD, show hzD g c (m + 1) = qd (hzD g c m * g + c (255 - m)) from rfl, Int.pow_zero, Int.mul_one, show 256 - (m + 1) + 0 = 255 - m by omega]
  refine (qM_qd _).trans (((ih.mul (qM.of rfl)).add (qM.of rfl)).trans (qM.of ?_))
  rw [← rS_mulr, Int.add_comm]
  congr 1
  refine rS_congr fun t _ => ?_
  rw [show 256 - (m + 1) + (t + 1) = 256 - m + t by omega, Int.pow_succ, Int.mul_assoc]
theorem hzD_all (g : Int) (c : Nat → Int) : hzD g c 256 = qd (evD g c) := by
 rw [← qd_small (hzD_lt g c 256)]
 refine qd_of ((hzD_sum g c 256 (Nat.le_refl _)).trans (qM.of ?_))
 exact rS_congr fun t _ => by rw [show 256 - 256 + t = t by omega]
def rvF (i : Nat) : Nat → Nat
 | 0 => 0
 | t + 1 => 2 * rvF i t + i / 2 ^ t % 2
theorem rvF_all' : ((List.range 256).all fun i => decide (rvF i 8 = rvQ i)) = true := by decide +kernel
theorem rvF_all (i : Nat) (hi : i < 256) : rvF i 8 = rvQ i := of_decide_eq_true (List.all_eq_true.1 rvF_all' i (List.mem_range.2 hi))
theorem rvF_lt (i : Nat) : ∀ t, rvF i t < 2 ^ t
 | 0 => by show 0 < 1; decide
 | t + 1 => by
  have h := rvF_lt i t
  rw [Nat.pow_succ]
  unfold rvF
  omega
theorem rtQ_qd (i : Nat) : qd ((1753 : Int) ^ (2 * rvQ i + 1)) = (rtQ i : Int) := by
 unfold rtQ qd
 rw [Int.natCast_emod, Int.natCast_pow]
 rfl
set_option maxHeartbeats 8000000 in
theorem Direct_any (p : Nat → Int) (hp : ∀ i, i < 256 → i32 (p i)) (w : World) : Calls Try.prog 25 #[polyD p] w (DPolyIs w (nttD p)) := by
 unfold DPolyIs polyD
 have HRD : Shh (∀ W, Calls Try.prog 13 #[.agg (dc p).toArray] W (DPolyIs W (redD p))) := ⟨fun W => refReduce_any p hp W⟩
 have HPW : Shh (∀ i, i < 256 → ∀ W, Calls Try.prog 52 #[.int .i64 1753, .int .i64 ((2 * rvF i 8 + 1 : Nat) : Int)] W (I64Is W (rtQ i : Int))) := ⟨fun i hi W => by
  have h := rvQ_lt i hi
  rw [rvF_all i hi, ← rtQ_qd]
  exact refPowerD_any 1753 (2 * rvQ i + 1) (by decide) (by omega) W⟩
 have HFN : Shh (∀ i, hzD (rtQ i) (redD p) 256 = nttD p i ∧ i32 (nttD p i)) := ⟨fun i => ⟨by rw [hzD_all]; exact nttD_of (pQ_red p) i, by have := qd_lt (evD (rtQ i) p); unfold nttD i32; omega⟩⟩
 have HRT : Shh (∀ i, (0 : Int) ≤ (rtQ i : Int) ∧ (rtQ i : Int) < 8380417) := ⟨fun i => by have : rtQ i < 8380417 := Nat.mod_lt _ (by decide); omega⟩
 have HR : Shh (∀ k, 0 ≤ redD p k ∧ redD p k < 8380417) := ⟨fun k => qd_lt _⟩
 clear hp
 generalize nttD p = fin at *
 generalize redD p = r at *
 generalize hN : w.heap.size = N at *
 have FA : Shh (Row ((w.alloc (.cells (dc p).toArray 23)).alloc (.cells (dc fun _ => 0).toArray 23)) N 23 (dc p) ∧ Row ((w.alloc (.cells (dc p).toArray 23)).alloc (.cells (dc fun _ => 0).toArray 23)) (N + 1) 23 (dc fun _ => 0) ∧ Below N w ((w.alloc (.cells (dc p).toArray 23)).alloc (.cells (dc fun _ => 0).toArray 23))) := by
  refine ⟨((Row.new_ hN.symm rfl).alloc _), (Row.new_ (by rw [asz, hN]) rfl), ?_⟩
  rw [← hN]
  exact Below.chain (belA _ _) (belA _ _)
 go_enter Try.func25, Try.ntmps25
 go_wp2_with (first | refine wl_allocD rfl rfl ?_ | refine wpList_load_any rfl 23 (.tmp 1) rfl N rfl 23 (dc p) (.array 256 21) FA.out.1 Try.underlying23 rfl (info_dD.trans (size_dc _)) ?_ | (go_at_call 13; refine (HRD.out _).mono ?_))
 rintro e w1 ⟨rfl, b2⟩
 have FB : Shh (Row w1 N 23 (dc p) ∧ Row w1 (N + 1) 23 (dc fun _ => 0) ∧ Below N w w1) := by
  obtain ⟨h0, h1, h2⟩ := FA.out
  have := h0.lt
  have := h1.lt
  have := b2.size
  exact ⟨h0.go b2, h1.go b2, h2.trans (b2.mono (by omega))⟩
 clear b2 FA HRD
 go_wp2_with (first | refine wpList_store_any rfl 23 (.tmp 1) (.tmp 11) rfl N rfl (dc r) rfl 23 _ FB.out.1 (info_dD.trans (size_dc _)) (same_dc _ _) (dc_one _) ?_)
 intro w3 r4 bt5 zbt5
 have FC : Shh (Row w3 N 23 (dc r) ∧ Row w3 (N + 1) 23 (dc fun _ => 0) ∧ Below N w w3) := by
  obtain ⟨h0, h1, h2⟩ := FB.out
  have := h0.lt
  have := h1.lt
  have hb := bt5.under (Nat.le_of_lt h0.lt) (Nat.le_refl _)
  have := hb.size
  exact ⟨r4, bt5.row h1 h1.lt (by omega), h2.trans (hb.mono (by omega))⟩
 clear bt5 FB r4 zbt5
 go_wp2_with (refine wl_newzD 3 rfl rfl rfl ?_)
 intro G3 w7 hG3 r8 b6
 try simp only [Act.put, arr9, hd9, tl9]
 have FD : Shh (Row w7 N 23 (dc r) ∧ Row w7 (N + 1) 23 (dc fun _ => 0) ∧ Below N w w7 ∧ Row w7 G3 23 (dc fun _ => 0) ∧ N + 1 < G3) := by
  obtain ⟨h0, h1, h2⟩ := FC.out
  have := h0.lt
  have := h1.lt
  have := b6.size
  have := hG3.out
  exact ⟨h0.go b6, h1.go b6, h2.trans (b6.mono (by omega)), r8, (by omega)⟩
 clear b6 FC r8 hG3
 go_wp2
 go_loopw [12] (fun i wr => ∃ k : Nat, k ≤ 256 ∧ i = .int .i64 (k : Int) ∧ Shh (Row wr N 23 (dc r) ∧ Row wr (N + 1) 23 (dc fun _ => 0) ∧ Below N w wr ∧ Row wr G3 23 (dc (dhf fin (fun _ => 0) k)) ∧ N + 1 < G3)) (fun i _ => 256 - (intOf i).toNat)
 case atStart => exact ⟨0, Nat.zero_le _, rfl, ⟨by simp only [dhf_zero]; exact FD.out⟩⟩
 case round =>
  clear FD
  obtain ⟨i, hi, rfl, HI⟩ := hrel
  by_cases hit : i < 256
  ·have hit2 : (i : Int) < 256 := by omega
   have HN1 := Shh.mk (dhf_next fin (fun _ => 0) i)
   have HPI := Shh.mk (HPW.out i hit)
   obtain ⟨hf1, hf2⟩ := HFN.out i
   have hg := HRT.out i
   generalize (rtQ i : Int) = g at *
   generalize fin i = fi at *
   have HF1 := Shh.mk hf1
   have HF2 := Shh.mk hf2
   have HGG := Shh.mk hg
   clear hf1 hf2 hg
   have HRF := Shh.mk (fun t => rvF_lt i t)
   have HRN : Shh (∀ t, rvF i (t + 1) = 2 * rvF i t + i / 2 ^ t % 2) := ⟨fun _ => rfl⟩
   have HR0 : Shh (rvF i 0 = 0) := ⟨rfl⟩
   have HQN : Shh (∀ t, i / 2 ^ (t + 1) = i / 2 ^ t / 2) := ⟨fun t => by rw [Nat.pow_succ, Nat.div_div_eq_div_mul]⟩
   have HQ0 : Shh (i / 2 ^ 0 = i ∧ ∀ t, i / 2 ^ t ≤ i) := ⟨by rw [Nat.pow_zero, Nat.div_one], fun t => Nat.div_le_self _ _⟩
   have HPB : Shh (∀ t, t ≤ 8 → 2 ^ t ≤ 256) := ⟨fun t ht => Nat.pow_le_pow_right (by decide) ht⟩
   obtain ⟨rv, Hrv⟩ : ∃ f : Nat → Nat, f = rvF i := ⟨_, rfl⟩
   rw [← Hrv] at HRF HRN HR0 HPI
   clear Hrv
   obtain ⟨nq, Hnq⟩ : ∃ f : Nat → Nat, ∀ t, f t = i / 2 ^ t := ⟨_, fun _ => rfl⟩
   have HQN2 : Shh (∀ t, nq (t + 1) = nq t / 2) := ⟨fun t => by rw [Hnq, Hnq]; exact HQN.out t⟩
   have HQ2 : Shh (nq 0 = i ∧ ∀ t, nq t ≤ i) := ⟨by rw [Hnq]; exact HQ0.out.1, fun t => by rw [Hnq]; exact HQ0.out.2 t⟩
   have HRN2 : Shh (∀ t, rv (t + 1) = 2 * rv t + nq t % 2) := ⟨fun t => by rw [Hnq]; exact HRN.out t⟩
   clear HQN HQ0 HRN Hnq
   go_wp2
   go_loopw [5, 6, 16] (fun x y c wr => ∃ t : Nat, t ≤ 8 ∧ x = .int .i64 (rv t : Int) ∧ y = .int .i64 (nq t : Int) ∧ c = .int .i64 (t : Int) ∧ Shh (Row wr N 23 (dc r) ∧ Row wr (N + 1) 23 (dc fun _ => 0) ∧ Below N w wr ∧ Row wr G3 23 (dc (dhf fin (fun _ => 0) i)) ∧ N + 1 < G3)) (fun _ _ c _ => 8 - (intOf c).toNat)
   case atStart => exact ⟨0, Nat.zero_le _, by rw [HR0.out]; rfl, by rw [HQ2.out.1], rfl, HI⟩
   case round =>
    clear HI
    obtain ⟨t, ht, rfl, rfl, rfl, HI⟩ := hrel
    by_cases htt : t < 8
    ·have htt2 : (t : Int) < 8 := by omega
     have h1 := HRF.out t
     have h2 := HPB.out t (by omega)
     have h3 := HRN2.out t
     have h4 := HQN2.out t
     have h5 := HQ2.out.2 t
     generalize hra : rv (t + 1) = ra at *
     generalize hna : nq (t + 1) = na at *
     have HRA := Shh.mk hra
     have HNA := Shh.mk hna
     clear hra hna
     generalize rv t = r0 at *
     generalize nq t = n0 at *
     obtain ⟨d, Hd⟩ : ∃ d : Int, Shh (d = 2 * (r0 : Int) ∧ -9223372036854775808 ≤ d ∧ d ≤ 9223372036854775807) := ⟨_, ⟨rfl, by omega, by omega⟩⟩
     obtain ⟨e, He⟩ : ∃ e : Int, Shh (e = (n0 : Int).tmod 2 ∧ -9223372036854775808 ≤ e ∧ e ≤ 9223372036854775807) := ⟨(n0 : Int) % 2, ⟨by rw [Int.tmod_eq_emod_of_nonneg (by omega)], by omega, by omega⟩⟩
     have Hf : Shh ((ra : Int) = d + e ∧ -9223372036854775808 ≤ (ra : Int) ∧ (ra : Int) ≤ 9223372036854775807) := ⟨by have h6 := He.out.1; rw [Int.tmod_eq_emod_of_nonneg (by omega)] at h6; have := Hd.out.1; omega, by omega, by omega⟩
     have Hg : Shh ((na : Int) = (n0 : Int).tdiv 2 ∧ -9223372036854775808 ≤ (na : Int) ∧ (na : Int) ≤ 9223372036854775807) := ⟨by rw [Int.tdiv_eq_ediv_of_nonneg (by omega)]; omega, by omega, by omega⟩
     clear h1 h2 h3 h4 h5
     go_wp2_with (first | refine wl_at 19 rfl (.int .i64 d) rfl (mul_n Hd.out rfl rfl rfl) ?_ | refine wl_at 21 rfl (.int .i64 e) rfl (rem_n He.out (by decide) rfl rfl rfl) ?_ | refine wl_at 22 rfl (.int .i64 (ra : Int)) rfl (add_n Hf.out rfl rfl rfl) ?_ | refine wl_at 24 rfl (.int .i64 (na : Int)) rfl (quo_n Hg.out (by decide) rfl rfl rfl) ?_)
     go_roundw
     case rel => exact ⟨t + 1, by omega, by rw [HRA.out], by rw [HNA.out], by go_num, HI⟩
     case measure => simp [intOf]; omega
    ·have htt2 : ¬ (t : Int) < 8 := by omega
     obtain rfl : t = 8 := by omega
     have h1 := HRF.out 8
     have h2 := HPB.out 8 (by omega)
     generalize rv 8 = rr at *
     generalize nq 8 = n8 at *
     obtain ⟨d, Hd⟩ : ∃ d : Int, Shh (d = 2 * (rr : Int) ∧ -9223372036854775808 ≤ d ∧ d ≤ 9223372036854775807) := ⟨_, ⟨rfl, by omega, by omega⟩⟩
     obtain ⟨e, He⟩ : ∃ e : Nat, Shh ((e : Int) = d + 1 ∧ -9223372036854775808 ≤ (e : Int) ∧ (e : Int) ≤ 9223372036854775807) := ⟨2 * rr + 1, ⟨by have := Hd.out.1; omega, by omega, by omega⟩⟩
     have HPI2 : Shh (∀ W, Calls Try.prog 52 #[.int .i64 1753, .int .i64 (e : Int)] W (I64Is W g)) := ⟨fun W => by rw [show e = 2 * rr + 1 by have := He.out.1; have := Hd.out.1; omega]; exact HPI.out W⟩
     clear h1 h2
     go_wp2_with (first | refine wl_at 27 rfl (.int .i64 d) rfl (mul_n Hd.out rfl rfl rfl) ?_ | refine wl_at 28 rfl (.int .i64 (e : Int)) rfl (add_n He.out rfl rfl rfl) ?_ | (go_at_call 52; refine (HPI2.out _).mono ?_))
     rintro e w9 ⟨rfl, rfl⟩
     have HZ0 : Shh (hzD g r 0 = 0) := ⟨rfl⟩
     have HZN : Shh (∀ m, hzD g r (m + 1) = qd (hzD g r m * g + r (255 - m))) := ⟨fun _ => rfl⟩
     have HZL := Shh.mk (hzD_lt g r)
     generalize hzD g r = hz at *
     go_wp2
     go_loopw [8, 9] (fun x y wr => ∃ (m : Nat) (j : Int), m ≤ 256 ∧ Shh (j = 255 - (m : Int)) ∧ x = .int .i64 (hz m) ∧ y = .int .i64 j ∧ Shh (Row wr N 23 (dc r) ∧ Row wr (N + 1) 23 (dc fun _ => 0) ∧ Below N w wr ∧ Row wr G3 23 (dc (dhf fin (fun _ => 0) i)) ∧ N + 1 < G3)) (fun _ y _ => (intOf y + 1).toNat)
     case atStart => exact ⟨0, 255, Nat.zero_le _, ⟨by omega⟩, by rw [HZ0.out], rfl, HI⟩
     case round =>
      clear HI
      obtain ⟨m, j, hm, Hj, rfl, rfl, HI⟩ := hrel
      by_cases hmt : m < 256
      ·obtain ⟨k, hk⟩ : ∃ k : Nat, j = (k : Int) := ⟨255 - m, by have := Hj.out; omega⟩
       subst hk
       have hkn : k = 255 - m := by have := Hj.out; omega
       have hlt : k < 256 := by omega
       have hk2 : (0 : Int) ≤ (k : Int) := by omega
       have HG := Shh.mk (dc_get r hlt)
       have h1 := HZN.out m
       have h2 := HZL.out m
       have h3 := HR.out k
       rw [← hkn] at h1
       have HKM := Shh.mk hkn
       clear hkn
       generalize hzn : hz (m + 1) = z1 at *
       have HZ1 := Shh.mk hzn
       clear hzn
       generalize hz m = z0 at *
       generalize r k = rk at *
       have hg := HGG.out
       obtain ⟨u, Hu⟩ : ∃ u, Shh (u = z0 * g ∧ -9223372036854775808 ≤ u ∧ u ≤ 9223372036854775807) := ⟨_, ⟨rfl, by have := Int.mul_nonneg h2.1 hg.1; omega, by have : z0 * g ≤ 8380417 * 8380417 := Int.mul_le_mul (by omega) (by omega) hg.1 (by decide); omega⟩⟩
       have hu : 0 ≤ u ∧ u ≤ 70231389093889 := by rw [Hu.out.1]; exact ⟨Int.mul_nonneg h2.1 hg.1, by have : z0 * g ≤ 8380417 * 8380417 := Int.mul_le_mul (by omega) (by omega) hg.1 (by decide); omega⟩
       obtain ⟨v, Hv⟩ : ∃ v, Shh (v = u + rk ∧ -9223372036854775808 ≤ v ∧ v ≤ 9223372036854775807) := ⟨_, ⟨rfl, by omega, by omega⟩⟩
       have Hx : Shh (z1 = v.tmod 8380417 ∧ -9223372036854775808 ≤ z1 ∧ z1 ≤ 9223372036854775807) := by
        have h5 := qd_lt (z0 * g + rk)
        rw [← h1] at h5
        refine ⟨⟨?_, by omega, by omega⟩⟩
        rw [Int.tmod_eq_emod_of_nonneg (by have := Hv.out.1; omega), Hv.out.1, Hu.out.1, h1]
        rfl
       have H32 : Shh (i32 rk) := ⟨by unfold i32; omega⟩
       obtain ⟨j1, Hj1⟩ : ∃ j1 : Int, Shh (j1 = (k : Int) - 1 ∧ -9223372036854775808 ≤ j1 ∧ j1 ≤ 9223372036854775807) := ⟨_, ⟨rfl, by omega, by omega⟩⟩
       have HL := Shh.mk ((HI.out.1.cell k).trans HG.out)
       clear h1 h2 h3 hg hu
       go_wp2_with (first | refine wl_at 36 rfl (.int .i64 u) rfl (mul_l Hu.out rfl rfl rfl) ?_ | refine wl_at 38 rfl (.pointer (some ⟨N, k, none⟩)) rfl (at_dD hlt rfl rfl rfl) ?_ | refine wl_at 39 rfl (.int .i32 rk) rfl (load_d rfl HL.out rfl) ?_ | refine wl_at 40 rfl (.int .i64 rk) rfl (conv_dl H32.out rfl rfl) ?_ | refine wl_at 41 rfl (.int .i64 v) rfl (add_l Hv.out rfl rfl rfl) ?_ | refine wl_at 42 rfl (.int .i64 z1) rfl (rem_l Hx.out (by decide) rfl rfl rfl) ?_ | refine wl_at 33 rfl (.int .i64 j1) rfl (sub_n Hj1.out rfl rfl rfl) ?_)
       go_roundw
       case rel => exact ⟨m + 1, j1, by omega, ⟨by have := Hj1.out.1; have := HKM.out; omega⟩, by rw [HZ1.out], rfl, HI⟩
       case measure => (have := Hj1.out.1; simp [intOf]; omega)
      ·have hj2 : ¬ (0 : Int) ≤ j := by have := Hj.out; omega
       obtain rfl : m = 256 := by omega
       have HF : Shh (hz 256 = fi) := ⟨HF1.out⟩
       generalize hzf : hz 256 = zf at *
       obtain rfl : zf = fi := HF.out
       clear hzf
       go_wp2_with (first | refine wl_at 45 rfl (.int .i32 zf) rfl (conv_ld HF2.out rfl rfl) ?_ | refine wl_at 46 rfl (.pointer (some ⟨G3, i, none⟩)) rfl (at_dD hit rfl rfl rfl) ?_ | refine wl_storeD rfl hit rfl rfl rfl HI.out.2.2.2.1 ?_)
       intro w10 r11 bt12 zbt12
       rw [HN1.out] at r11
       have HJ : Shh (Row w10 N 23 (dc r) ∧ Row w10 (N + 1) 23 (dc fun _ => 0) ∧ Below N w w10 ∧ Row w10 G3 23 (dc (dhf fin (fun _ => 0) (i + 1))) ∧ N + 1 < G3) := by
        obtain ⟨h0, h1, h2, h3, h4⟩ := HI.out
        have := h0.lt
        have := h1.lt
        have := h3.lt
        have hb := bt12.under (Nat.le_of_lt h3.lt) (Nat.le_refl _)
        have := hb.size
        exact ⟨bt12.row h0 h0.lt (by omega), bt12.row h1 h1.lt (by omega), h2.trans (hb.mono (by omega)), r11, h4⟩
       clear bt12 HI r11 zbt12
       go_wp2
       go_roundw
       case rel => exact ⟨i + 1, by omega, by go_num, HJ⟩
       case measure => simp [intOf]; omega
  ·have hit2 : ¬ (i : Int) < 256 := by omega
   have HJ : Shh (Row wr N 23 (dc r) ∧ Row wr (N + 1) 23 (dc fun _ => 0) ∧ Below N w wr ∧ Row wr G3 23 (dc fin) ∧ N + 1 < G3) := by
    have h := HI.out
    rw [show i = 256 by omega] at h
    simp only [dhf_all] at h
    exact ⟨h⟩
   clear HI
   go_wp2_with (first | refine wpList_load_any rfl 23 (.tmp 3) rfl G3 rfl 23 (dc fin) (.array 256 21) HJ.out.2.2.2.1 Try.underlying23 rfl (info_dD.trans (size_dc _)) ?_ | refine wpList_store_any rfl 23 (.tmp 2) (.tmp 48) rfl (N + 1) rfl (dc fin) rfl 23 _ HJ.out.2.1 (info_dD.trans (size_dc _)) (same_dc _ _) (dc_one _) ?_)
   intro w9 r10 bt11 zbt11
   have HK : Shh (Row w9 N 23 (dc r) ∧ Row w9 (N + 1) 23 (dc fin) ∧ Below N w w9 ∧ Row w9 G3 23 (dc fin) ∧ N + 1 < G3) := by
    obtain ⟨h0, h1, h2, h3, h4⟩ := HJ.out
    have := h0.lt
    have := h1.lt
    have := h3.lt
    have hb := bt11.under (Nat.le_of_lt h1.lt) (Nat.le_refl _)
    have := hb.size
    exact ⟨bt11.row h0 h0.lt (by omega), r10, h2.trans (hb.mono (by omega)), bt11.row h3 h3.lt (by omega), h4⟩
   clear bt11 HJ r10 zbt11
   go_wp2
   exact ret_row Try.results25 rfl rfl HK.out.2.1 Try.underlying23 rfl (info_dD.trans (size_dc _)) ⟨rfl, HK.out.2.2.1⟩
end Go.Proofs.Ytapjiknedghhfaa
