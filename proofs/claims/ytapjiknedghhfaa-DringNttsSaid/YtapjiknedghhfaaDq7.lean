/-
 THE PROGRAM'S TRANSFORM: roots, Ntt, Inv, Mul.
-/
import Derived.Test.YtapjiknedghhfaaDq5
import Derived.Test.YtapjiknedghhfaaDg4
namespace Go.Proofs.Ytapjiknedghhfaa
open Go.RowKit
set_option maxRecDepth 100000
def wI (i : Nat) : Int := (wQ i : Int)
theorem wI_lt (i : Nat) : 0 ≤ wI i ∧ wI i < 8380417 := by have := wQ_lt i; unfold wI; omega
def pwI (k : Nat) : Int := ((1753 ^ k % 8380417 : Nat) : Int)
theorem pwI_lt (k : Nat) : 0 ≤ pwI k ∧ pwI k < 8380417 := by have := Nat.mod_lt (1753 ^ k) (show 8380417 > 0 by decide); unfold pwI; omega
theorem pwI_next (k : Nat) : pwI (k + 1) = qd (pwI k * 1753) := by
 unfold pwI qd
 rw [Nat.pow_succ, ← Nat.mod_mul_mod]
 omega
/-- what is laid after k rounds -/
def rtSD (k i : Nat) : Int := if rvQ i < k then wI i else 0
theorem rtSD_zero : dc (rtSD 0) = dc fun _ => 0 := dc_of fun _ _ => if_neg (by omega)
theorem rtSD_all : dc (rtSD 256) = dc wI := dc_of fun i hi => if_pos (rvQ_lt i hi)
theorem rtSD_next (k : Nat) (hk : k < 256) : dc (dup (rtSD k) (rvQ k) (pwI k)) = dc (rtSD (k + 1)) := dc_of fun i hi => by
 unfold dup rtSD
 by_cases h : i = rvQ k
 ·have e : rvQ i = k := by rw [h]; exact rvQ_rv k hk
  rw [if_pos h, e, if_pos (by omega)]
  unfold pwI wI wQ
  rw [e]
 ·have e : rvQ i ≠ k := fun q => h (by rw [← q]; exact (rvQ_rv i hi).symm)
  rw [if_neg h]
  by_cases h2 : rvQ i < k
  ·rw [if_pos h2, if_pos (by omega)]
  ·rw [if_neg h2, if_neg (by omega)]
set_option maxHeartbeats 2000000 in
theorem roots_dany (w : World) : Calls Try.prog 50 #[] w (DPolyIs w wI) := by
 unfold DPolyIs
 generalize hN : w.heap.size = N at *
 have FA : Shh (Row ((w.alloc (.cells (dc fun _ => 0).toArray 22)).alloc (.cells (dc fun _ => 0).toArray 22)) N 22 (dc fun _ => 0) ∧ Row ((w.alloc (.cells (dc fun _ => 0).toArray 22)).alloc (.cells (dc fun _ => 0).toArray 22)) (N + 1) 22 (dc fun _ => 0) ∧ Below N w ((w.alloc (.cells (dc fun _ => 0).toArray 22)).alloc (.cells (dc fun _ => 0).toArray 22))) := by
  refine ⟨((Row.new_ hN.symm rfl).alloc _), (Row.new_ (by rw [asz, hN]) rfl), ?_⟩
  rw [← hN]
  exact Below.chain (belA _ _) (belA _ _)
 go_enter Try.func50, Try.ntmps50
 obtain ⟨W, hW⟩ : ∃ W, W = ((w.alloc (.cells (dc fun _ => 0).toArray 22)).alloc (.cells (dc fun _ => 0).toArray 22)) := ⟨_, rfl⟩
 have FB : Shh (Row W N 22 (dc fun _ => 0) ∧ Row W (N + 1) 22 (dc fun _ => 0) ∧ Below N w W) := by rw [hW]; exact FA
 clear FA
 go_wp2_with (refine wl_allocA rfl rfl ?_)
 try simp only [asz, hN]
 rw [← hW]
 clear hW
 go_wp2
 go_loopw [2, 4] (fun p i wr => ∃ k : Nat, k ≤ 256 ∧ i = .int .i64 (k : Int) ∧ p = .int .i32 (pwI k) ∧ Shh (Row wr N 22 (dc fun _ => 0) ∧ Row wr (N + 1) 22 (dc (rtSD k)) ∧ Below N w wr)) (fun _ i _ => 256 - (intOf i).toNat)
 case atStart => exact ⟨0, Nat.zero_le _, rfl, rfl, ⟨by rw [rtSD_zero]; exact FB.out⟩⟩
 case round =>
  clear FB
  obtain ⟨k, hk, rfl, rfl, HI⟩ := hrel
  by_cases hlt : k < 256
  ·have HN1 := Shh.mk (rtSD_next k hlt)
   have HV := Shh.mk (rvQ_lt k hlt)
   have HRV := Shh.mk (fun W => rev_dprog k hlt W)
   have HPR : Shh (∀ W, Calls Try.prog 51 #[.int .i32 (pwI k), .int .i32 1753] W (I32Is W (pwI (k + 1)))) := ⟨fun W => by rw [pwI_next]; exact productD_any _ _ ⟨(pwI_lt k).1, (pwI_lt k).2, by decide, by decide⟩ W⟩
   generalize hPN : pwI (k + 1) = p2 at *
   have HPN := Shh.mk hPN
   clear hPN
   generalize pwI k = pk at *
   generalize rvQ k = v at *
   have hlt2 : (k : Int) < 256 := by omega
   go_wp2_with (first | (go_at_call 59; refine (HRV.out _).mono ?_))
   rintro e w1 ⟨rfl, rfl⟩
   go_wp2_with (first | refine wl_at 10 rfl (.pointer (some ⟨(N + 1), v, none⟩)) rfl (at_dA HV.out rfl rfl rfl) ?_ | refine wl_storeD rfl HV.out rfl rfl rfl HI.out.2.1 ?_)
   intro w2 r3 bt4 zbt4
   rw [HN1.out] at r3
   have HJ : Shh (Row w2 N 22 (dc fun _ => 0) ∧ Row w2 (N + 1) 22 (dc (rtSD (k + 1))) ∧ Below N w w2) := by
    obtain ⟨h0, h1, h2⟩ := HI.out
    have := h0.lt
    have := h1.lt
    have hb := bt4.under (Nat.le_of_lt h1.lt) (Nat.le_refl _)
    have := hb.size
    exact ⟨bt4.row h0 h0.lt (by omega), r3, h2.trans (hb.mono (by omega))⟩
   clear bt4 HI r3 zbt4
   go_wp2_with (first | (go_at_call 51; refine (HPR.out _).mono ?_))
   rintro e w5 ⟨rfl, rfl⟩
   go_wp2
   go_roundw
   case rel => exact ⟨k + 1, by omega, by go_num, by rw [HPN.out], HJ⟩
   case measure => simp [intOf]; omega
  ·have hlt2 : ¬ (k : Int) < 256 := by omega
   have HJ : Shh (Row wr N 22 (dc fun _ => 0) ∧ Row wr (N + 1) 22 (dc wI) ∧ Below N w wr) := by
    have h := HI.out
    rw [show k = 256 by omega, rtSD_all] at h
    exact ⟨h⟩
   clear HI
   generalize pwI k = pk at *
   go_wp2_with (first | refine wpList_load_any rfl 22 (.tmp 1) rfl (N + 1) rfl 22 (dc wI) (.array 256 21) HJ.out.2.1 Try.underlying22 rfl (info_dA.trans (size_dc _)) ?_ | refine wpList_store_any rfl 22 (.tmp 0) (.tmp 14) rfl N rfl (dc wI) rfl 22 _ HJ.out.1 (info_dA.trans (size_dc _)) (same_dc _ _) (dc_one _) ?_)
   intro w1 r2 bt3 zbt3
   have HK : Shh (Row w1 N 22 (dc wI) ∧ Row w1 (N + 1) 22 (dc wI) ∧ Below N w w1) := by
    obtain ⟨h0, h1, h2⟩ := HJ.out
    have := h0.lt
    have := h1.lt
    have hb := bt3.under (Nat.le_of_lt h0.lt) (Nat.le_refl _)
    have := hb.size
    exact ⟨r2, bt3.row h1 h1.lt (by omega), h2.trans (hb.mono (by omega))⟩
   clear bt3 HJ r2 zbt3
   go_wp2
   exact ret_row Try.results50 rfl rfl HK.out.1 Try.underlying22 rfl (info_dA.trans (size_dc _)) ⟨rfl, HK.out.2.2⟩
/-- the blocks of a layer, and their length -/
def isLL (J L : Nat) : Prop := J = 1 ∧ L = 256 ∨ J = 2 ∧ L = 128 ∨ J = 4 ∧ L = 64 ∨ J = 8 ∧ L = 32 ∨ J = 16 ∧ L = 16 ∨ J = 32 ∧ L = 8 ∨ J = 64 ∧ L = 4 ∨ J = 128 ∧ L = 2 ∨ J = 256 ∧ L = 1
theorem isLL.half {J L : Nat} (h : isLL J L) (hJ : J < 256) : ∃ H, L = 2 * H ∧ qisHalf H ∧ 1 ≤ J ∧ J ≤ 128 ∧ H = 256 / (2 * J) ∧ H * J = 128 ∧ H ≤ 128 ∧ 1 ≤ H ∧ isLL (2 * J) H := by
 refine ⟨L / 2, ?_⟩
 unfold qisHalf isLL
 rcases h with ⟨rfl, rfl⟩ | ⟨rfl, rfl⟩ | ⟨rfl, rfl⟩ | ⟨rfl, rfl⟩ | ⟨rfl, rfl⟩ | ⟨rfl, rfl⟩ | ⟨rfl, rfl⟩ | ⟨rfl, rfl⟩ | ⟨rfl, rfl⟩ <;> first | omega | simp
theorem isLL.last {J L : Nat} (h : isLL J L) (hJ : ¬ J < 256) : J = 256 ∧ L = 1 := by unfold isLL at h; omega
/-- the places in a block are places in the polynomial -/
theorem place_ltQ {J H k j : Nat} (h : H * J = 128) (hk : k < J) (hj : j < H) : 2 * H * k + j + H < 256 ∧ 2 * H * k ≤ 256 := by
 have h1 : 2 * H * (k + 1) ≤ 2 * H * J := Nat.mul_le_mul_left _ hk
 rw [Nat.mul_assoc 2 H J, h] at h1
 rw [Nat.mul_succ] at h1
 omega
/-- the way back: blocks, the length that is done, the blocks that are done -/
def isIV (J L K : Nat) : Prop := J = 128 ∧ L = 1 ∧ K = 256 ∨ J = 64 ∧ L = 2 ∧ K = 128 ∨ J = 32 ∧ L = 4 ∧ K = 64 ∨ J = 16 ∧ L = 8 ∧ K = 32 ∨ J = 8 ∧ L = 16 ∧ K = 16 ∨ J = 4 ∧ L = 32 ∧ K = 8 ∨ J = 2 ∧ L = 64 ∧ K = 4 ∨ J = 1 ∧ L = 128 ∧ K = 2 ∨ J = 0 ∧ L = 256 ∧ K = 1
theorem isIV.half {J L K : Nat} (h : isIV J L K) (hJ : 1 ≤ J) : K = 2 * J ∧ qisHalf L ∧ J ≤ 128 ∧ L = 256 / (2 * J) ∧ L * J = 128 ∧ L ≤ 128 ∧ 1 ≤ L ∧ isIV (J / 2) (2 * L) J ∧ (J = 1 ∨ J = 2 ∨ J = 4 ∨ J = 8 ∨ J = 16 ∨ J = 32 ∨ J = 64 ∨ J = 128) := by
 unfold qisHalf isIV
 rcases h with ⟨rfl, rfl, rfl⟩ | ⟨rfl, rfl, rfl⟩ | ⟨rfl, rfl, rfl⟩ | ⟨rfl, rfl, rfl⟩ | ⟨rfl, rfl, rfl⟩ | ⟨rfl, rfl, rfl⟩ | ⟨rfl, rfl, rfl⟩ | ⟨rfl, rfl, rfl⟩ | ⟨rfl, rfl, rfl⟩ <;> first | omega | simp
theorem isIV.last {J L K : Nat} (h : isIV J L K) (hJ : ¬ 1 ≤ J) : J = 0 ∧ L = 256 ∧ K = 1 := by unfold isIV at h; omega
theorem isIV.le {J L K : Nat} (h : isIV J L K) : J ≤ 128 := by unfold isIV at h; omega
set_option maxHeartbeats 8000000 in
theorem Ntt_any (p : Nat → Int) (hp : ∀ i, i < 256 → i32 (p i)) (w : World) : Calls Try.prog 24 #[polyD p] w (DPolyIs w (nttD p)) := by
 unfold DPolyIs polyD
 have HRT : Shh (∀ W, Calls Try.prog 50 #[] W (DPolyIs W wI)) := ⟨fun W => roots_dany W⟩
 obtain ⟨F, HRD, HLA, HS, HB⟩ : ∃ F : Nat → Nat → Nat → Int, Shh (∀ W, Calls Try.prog 12 #[.agg (dc p).toArray] W (DPolyIs W (F 256 1))) ∧ Shh (dc (F 1 256) = dc (nttD p)) ∧ Shh (∀ H J k j, 1 ≤ J → J ≤ 128 → k < J → j < H → F H (2 * J) (2 * H * k + j) = qd (F (2 * H) J (2 * H * k + j) + qd (wI (J + k) * F (2 * H) J (2 * H * k + j + H))) ∧ F H (2 * J) (2 * H * k + j + H) = qd (F (2 * H) J (2 * H * k + j) - qd (wI (J + k) * F (2 * H) J (2 * H * k + j + H)))) ∧ Shh (∀ L J i, 0 ≤ F L J i ∧ F L J i < 8380417) :=
  ⟨fun L J => layD 1 L J p, ⟨fun W => by unfold DPolyIs; rw [show dc (layD 1 256 1 p) = dc (redD p) from dc_of fun i hi => layD_first p i hi]; exact Reduce_any p hp W⟩, ⟨dc_of fun i hi => layD_last p i hi⟩, ⟨fun H J k j h1 h2 h3 h4 => ⟨layD_lo H J k j h1 h2 h3 h4 p, layD_hi H J k j h1 h2 h3 h4 p⟩⟩, ⟨fun L J i => layD_lt 1 L J p i⟩⟩
 generalize nttD p = fin at *
 clear hp
 generalize hN : w.heap.size = N at *
 have FA : Shh (Row ((w.alloc (.cells (dc p).toArray 23)).alloc (.cells (dc fun _ => 0).toArray 23)) N 23 (dc p) ∧ Row ((w.alloc (.cells (dc p).toArray 23)).alloc (.cells (dc fun _ => 0).toArray 23)) (N + 1) 23 (dc fun _ => 0) ∧ Below N w ((w.alloc (.cells (dc p).toArray 23)).alloc (.cells (dc fun _ => 0).toArray 23))) := by
  refine ⟨((Row.new_ hN.symm rfl).alloc _), (Row.new_ (by rw [asz, hN]) rfl), ?_⟩
  rw [← hN]
  exact Below.chain (belA _ _) (belA _ _)
 go_enter Try.func24, Try.ntmps24
 go_wp2_with (first | refine wl_allocD rfl rfl ?_ | refine wpList_load_any rfl 23 (.tmp 1) rfl N rfl 23 (dc p) (.array 256 21) FA.out.1 Try.underlying23 rfl (info_dD.trans (size_dc _)) ?_ | (go_at_call 12; refine (HRD.out _).mono ?_))
 rintro e w1 ⟨rfl, b2⟩
 have FB : Shh (Row w1 N 23 (dc p) ∧ Row w1 (N + 1) 23 (dc fun _ => 0) ∧ Below N w w1) := by
  obtain ⟨h0, h1, h2⟩ := FA.out
  have := h0.lt
  have := h1.lt
  have := b2.size
  exact ⟨h0.go b2, h1.go b2, h2.trans (b2.mono (by omega))⟩
 clear b2 FA HRD
 go_wp2_with (first | refine wpList_store_any rfl 23 (.tmp 1) (.tmp 12) rfl N rfl (dc (F 256 1)) rfl 23 _ FB.out.1 (info_dD.trans (size_dc _)) (same_dc _ _) (dc_one _) ?_)
 intro w3 r4 bt5 zbt5
 have FC : Shh (Row w3 N 23 (dc (F 256 1)) ∧ Row w3 (N + 1) 23 (dc fun _ => 0) ∧ Below N w w3) := by
  obtain ⟨h0, h1, h2⟩ := FB.out
  have := h0.lt
  have := h1.lt
  have hb := bt5.under (Nat.le_of_lt h0.lt) (Nat.le_refl _)
  have := hb.size
  exact ⟨r4, bt5.row h1 h1.lt (by omega), h2.trans (hb.mono (by omega))⟩
 clear bt5 FB r4 zbt5
 go_wp2_with (first | (go_at_call 50; refine (HRT.out _).mono ?_))
 rintro e w6 ⟨rfl, b7⟩
 have FD : Shh (Row w6 N 23 (dc (F 256 1)) ∧ Row w6 (N + 1) 23 (dc fun _ => 0) ∧ Below N w w6) := by
  obtain ⟨h0, h1, h2⟩ := FC.out
  have := h0.lt
  have := h1.lt
  have := b7.size
  exact ⟨h0.go b7, h1.go b7, h2.trans (b7.mono (by omega))⟩
 clear b7 FC HRT
 go_wp2_with (refine wl_newdA 3 wI rfl rfl rfl rfl rfl rfl rfl rfl ?_)
 intro G w9 hG r10 b8
 try simp only [Act.put, arr9, hd9, tl9]
 have FE : Shh (Row w9 N 23 (dc (F 256 1)) ∧ Row w9 (N + 1) 23 (dc fun _ => 0) ∧ Below N w w9 ∧ Row w9 G 22 (dc wI) ∧ N + 1 < G) := by
  obtain ⟨h0, h1, h2⟩ := FD.out
  have := h0.lt
  have := h1.lt
  have := b8.size
  have := hG.out
  exact ⟨h0.go b8, h1.go b8, h2.trans (b8.mono (by omega)), r10, (by omega)⟩
 clear b8 FD r10 hG
 go_wp2
 go_loopw [4] (fun b wr => ∃ J L : Nat, Shh (isLL J L) ∧ b = .int .i64 (J : Int) ∧ Shh (Row wr N 23 (dc (F L J)) ∧ Row wr (N + 1) 23 (dc fun _ => 0) ∧ Below N w wr ∧ Row wr G 22 (dc wI) ∧ N + 1 < G)) (fun b _ => 256 - (intOf b).toNat)
 case atStart => exact ⟨1, 256, ⟨Or.inl ⟨rfl, rfl⟩⟩, rfl, FE⟩
 case round =>
  clear FE
  obtain ⟨J, L, HJJ, rfl, HI⟩ := hrel
  by_cases hlt : J < 256
  ·obtain ⟨H, hL, hH⟩ := HJJ.out.half hlt
   have HH := Shh.mk hH
   clear hH
   subst hL
   have hlt2 : (J : Int) < 256 := by omega
   obtain ⟨A0, HA0⟩ : ∃ a : Int, Shh (a = 2 * (J : Int) ∧ -9223372036854775808 ≤ a ∧ a ≤ 9223372036854775807) := ⟨_, ⟨rfl, by have := HH.out.2.2.1; omega, by have := HH.out.2.2.1; omega⟩⟩
   have HQ : Shh ((H : Int) = (256 : Int).tdiv A0 ∧ -9223372036854775808 ≤ (H : Int) ∧ (H : Int) ≤ 9223372036854775807) := by
    have h1 := HH.out.2.2.2.1
    have h2 := HH.out.2.2.2.2.2.1
    refine ⟨?_, by omega, by omega⟩
    rw [HA0.out.1, Int.tdiv_eq_ediv_of_nonneg (by decide), h1, Int.natCast_ediv, Int.natCast_mul]
    rfl
   have hA0 : A0 ≠ 0 := by have := HA0.out.1; have := HH.out.2.1; omega
   go_wp2_with (first | refine wl_at 19 rfl (.int .i64 A0) rfl (mul_n HA0.out rfl rfl rfl) ?_ | refine wl_at 20 rfl (.int .i64 (H : Int)) rfl (quo_n HQ.out hA0 rfl rfl rfl) ?_)
   clear hA0 HQ
   go_loopw [22] (fun c wr2 => ∃ k : Nat, k ≤ J ∧ c = .int .i64 (k : Int) ∧ Shh (Row wr2 N 23 (dc (midD H k 0 (F H (2 * J)) (F (2 * H) J))) ∧ Row wr2 (N + 1) 23 (dc fun _ => 0) ∧ Below N w wr2 ∧ Row wr2 G 22 (dc wI) ∧ N + 1 < G)) (fun c _ => J - (intOf c).toNat)
   case atStart => exact ⟨0, Nat.zero_le _, rfl, ⟨by rw [qmid_start]; exact HI.out⟩⟩
   case round =>
    clear HI
    obtain ⟨k, hk, rfl, HI⟩ := hrel
    by_cases hkt : k < J
    ·have hkt2 : (k : Int) < (J : Int) := by omega
     obtain ⟨A, HA⟩ : ∃ a : Int, Shh (a = 2 * (H : Int) ∧ -9223372036854775808 ≤ a ∧ a ≤ 9223372036854775807) := ⟨_, ⟨rfl, by have := HH.out.2.2.2.2.2.1; omega, by have := HH.out.2.2.2.2.2.1; omega⟩⟩
     obtain ⟨X0, HX0⟩ : ∃ X : Nat, Shh (X = 2 * H * k) := ⟨_, ⟨rfl⟩⟩
     have HPL : Shh (∀ j, j < H → X0 + j + H < 256 ∧ X0 = 2 * H * k) := ⟨fun j hj => by have := place_ltQ HH.out.2.2.2.2.1 hkt hj; rw [HX0.out]; omega⟩
     have HX1 : Shh (X0 + H ≤ 256) := ⟨by have h1 := HPL.out 0 (by have := HH.out.2.2.2.2.2.2.1; omega); omega⟩
     have HXA : Shh ((X0 : Int) = A * (k : Int) ∧ -9223372036854775808 ≤ (X0 : Int) ∧ (X0 : Int) ≤ 9223372036854775807) := ⟨by rw [HX0.out, HA.out.1, Int.natCast_mul, Int.natCast_mul]; rfl, by omega, by have := HX1.out; omega⟩
     have HE : Shh (((X0 + H : Nat) : Int) = (X0 : Int) + (H : Int) ∧ -9223372036854775808 ≤ ((X0 + H : Nat) : Int) ∧ ((X0 + H : Nat) : Int) ≤ 9223372036854775807) := ⟨by omega, by omega, by have := HX1.out; omega⟩
     obtain ⟨E, hE⟩ : ∃ E : Nat, E = X0 + H := ⟨_, rfl⟩
     rw [← hE] at HE HX1
     have HE2 := Shh.mk hE
     clear hE
     go_wp2_with (first | refine wl_at 26 rfl (.int .i64 A) rfl (mul_n HA.out rfl rfl rfl) ?_ | refine wl_at 28 rfl (.int .i64 (X0 : Int)) rfl (mul_n HXA.out rfl rfl rfl) ?_)
     go_loopw [8] (fun i wr3 => ∃ j x : Nat, j ≤ H ∧ Shh (x = X0 + j) ∧ i = .int .i64 (x : Int) ∧ Shh (Row wr3 N 23 (dc (midD H k j (F H (2 * J)) (F (2 * H) J))) ∧ Row wr3 (N + 1) 23 (dc fun _ => 0) ∧ Below N w wr3 ∧ Row wr3 G 22 (dc wI) ∧ N + 1 < G)) (fun i _ => E - (intOf i).toNat)
     case atStart => exact ⟨0, X0, Nat.zero_le _, ⟨rfl⟩, rfl, HI⟩
     case round =>
      clear HI
      obtain ⟨j, x, hj, Hx, rfl, HI⟩ := hrel
      by_cases hjt : j < H
      ·have hjt2 : (x : Int) < (E : Int) := by have := Hx.out; have := HE2.out; omega
       have HPX := Shh.mk (HPL.out j hjt)
       obtain ⟨y, Hy⟩ : ∃ y : Nat, Shh ((y : Int) = (x : Int) + (H : Int) ∧ -9223372036854775808 ≤ (y : Int) ∧ (y : Int) ≤ 9223372036854775807) := ⟨x + H, ⟨by omega, by omega, by have := Hx.out; have := HPX.out; omega⟩⟩
       obtain ⟨x1, Hx1⟩ : ∃ y : Nat, Shh ((y : Int) = (x : Int) + 1 ∧ -9223372036854775808 ≤ (y : Int) ∧ (y : Int) ≤ 9223372036854775807) := ⟨x + 1, ⟨by omega, by omega, by have := Hx.out; have := HPX.out; omega⟩⟩
       obtain ⟨t, Ht, ht0⟩ : ∃ t : Nat, Shh ((t : Int) = (J : Int) + (k : Int) ∧ -9223372036854775808 ≤ (t : Int) ∧ (t : Int) ≤ 9223372036854775807) ∧ t = J + k := ⟨J + k, ⟨by omega, by omega, by have := HH.out.2.2.1; omega⟩, rfl⟩
       have hx : x < 256 := by have := Hx.out; have := HPX.out; omega
       have hy : y < 256 := by have := Hx.out; have := HPX.out; have := Hy.out; omega
       have ht : t < 256 := by have := HH.out.2.2.1; omega
       have ex : x = 2 * H * k + j := by have := Hx.out; have := HPX.out; omega
       have ey : y = 2 * H * k + j + H := by have := Hy.out; omega
       have HST := HS.out H J k j HH.out.2.1 HH.out.2.2.1 hkt hjt
       have HM2 := Shh.mk (qmid_two H k j HH.out.1 hjt (F H (2 * J)) (F (2 * H) J))
       have HML := qmid_lo H k j hjt (F H (2 * J)) (F (2 * H) J)
       have HMH := qmid_hi H k j hjt (F H (2 * J)) (F (2 * H) J)
       rw [← ey, ← ex, ← ht0] at HST
       rw [← ey, ← ex] at HM2
       rw [← ex] at HML
       rw [← ey] at HMH
       have c1 := dc_get (midD H k j (F H (2 * J)) (F (2 * H) J)) hx
       rw [HML] at c1
       have c3 := dc_get (midD H k j (F H (2 * J)) (F (2 * H) J)) hy
       rw [HMH] at c3
       have c2 := dc_get wI ht
       have B1 := HB.out (2 * H) J x
       have B3 := HB.out (2 * H) J y
       have B2 := wI_lt t
       clear HML HMH ex ey ht0
       generalize F H (2 * J) x = s1 at *
       generalize F H (2 * J) y = s2 at *
       generalize F (2 * H) J x = a1 at *
       generalize F (2 * H) J y = a3 at *
       generalize wI t = a2 at *
       obtain ⟨m, Hm⟩ : ∃ m, Shh (m = qd (a2 * a3)) := ⟨_, ⟨rfl⟩⟩
       rw [← Hm.out] at HST
       have Bm : 0 ≤ m ∧ m < 8380417 := by rw [Hm.out]; exact qd_lt _
       have C1 : Shh (∀ W, Calls Try.prog 51 #[.int .i32 a2, .int .i32 a3] W (I32Is W m)) := ⟨fun W => by rw [Hm.out]; exact productD_any a2 a3 ⟨B2.1, B2.2, B3⟩ W⟩
       have C2 : Shh (∀ W, Calls Try.prog 48 #[.int .i32 a1, .int .i32 m] W (I32Is W s1)) := ⟨fun W => by rw [HST.1]; exact sumD_any a1 m ⟨B1.1, B1.2, Bm⟩ W⟩
       have C3 : Shh (∀ W, Calls Try.prog 49 #[.int .i32 a1, .int .i32 m] W (I32Is W s2)) := ⟨fun W => by rw [HST.2]; exact differenceD_any a1 m ⟨B1.1, B1.2, Bm⟩ W⟩
       have HC := Shh.mk (And.intro c1 (And.intro c2 c3))
       clear c1 c2 c3 HST B1 B2 B3 Bm Hm HPX
       go_wp2_with (refine wl_at 33 rfl (.int .i64 (E : Int)) rfl (add_n HE.out rfl rfl rfl) ?_)
       refine wp_region_held_drew (S := fun w' => Row w' N 23 (dc (midD H k j (F H (2 * J)) (F (2 * H) J))) ∧ Row w' G 22 (dc wI)) (by kernel_rfl) ⟨HI.out.1.drew, HI.out.2.2.2.1.drew⟩ (fun hS => ?_)
       clear hS
       obtain ⟨X11, hX11⟩ : ∃ V, V = World.drew wr := ⟨_, rfl⟩
       rw [← hX11]
       have HJ : Shh (Row X11 N 23 (dc (midD H k j (F H (2 * J)) (F (2 * H) J))) ∧ Row X11 (N + 1) 23 (dc fun _ => 0) ∧ Below N w X11 ∧ Row X11 G 22 (dc wI) ∧ N + 1 < G) := by
        obtain ⟨h0, h1, h2, h3, h4⟩ := HI.out
        rw [hX11]
        exact ⟨h0.drew, h1.drew, h2.drew, h3.drew, h4⟩
       clear hX11 HI
       refine hdv0 0 37 (.int .i64 (x : Int)) (by rfl) ⟨HJ.out.1, HJ.out.2.2.2.1⟩ ?_
       refine hdv 1 38 (.pointer (some ⟨N, x, none⟩)) (by rfl) (fun w hS => at_dD hx rfl (by kernel_rfl) (by kernel_rfl)) ⟨HJ.out.1, HJ.out.2.2.2.1⟩ ?_
       refine hdv 2 39 (.int .i32 a1) (by rfl) (fun w hS => load_d rfl ((hS.1.cell x).trans HC.out.1) (by kernel_rfl)) ⟨HJ.out.1, HJ.out.2.2.2.1⟩ ?_
       refine hdv0 3 40 (.int .i64 (J : Int)) (by rfl) ⟨HJ.out.1, HJ.out.2.2.2.1⟩ ?_
       refine hdv0 4 41 (.int .i64 (k : Int)) (by rfl) ⟨HJ.out.1, HJ.out.2.2.2.1⟩ ?_
       refine hdv 5 42 (.int .i64 (t : Int)) (by rfl) (fun w hS => add_n Ht.out rfl (by kernel_rfl) (by kernel_rfl)) ⟨HJ.out.1, HJ.out.2.2.2.1⟩ ?_
       refine hdv 6 43 (.pointer (some ⟨G, t, none⟩)) (by rfl) (fun w hS => at_dA ht rfl (by kernel_rfl) (by kernel_rfl)) ⟨HJ.out.1, HJ.out.2.2.2.1⟩ ?_
       refine hdv 7 44 (.int .i32 a2) (by rfl) (fun w hS => load_d rfl ((hS.2.cell t).trans HC.out.2.1) (by kernel_rfl)) ⟨HJ.out.1, HJ.out.2.2.2.1⟩ ?_
       refine hdv0 8 45 (.int .i64 (x : Int)) (by rfl) ⟨HJ.out.1, HJ.out.2.2.2.1⟩ ?_
       refine hdv0 9 46 (.int .i64 (H : Int)) (by rfl) ⟨HJ.out.1, HJ.out.2.2.2.1⟩ ?_
       refine hdv 10 47 (.int .i64 (y : Int)) (by rfl) (fun w hS => add_n Hy.out rfl (by kernel_rfl) (by kernel_rfl)) ⟨HJ.out.1, HJ.out.2.2.2.1⟩ ?_
       refine hdv 11 48 (.pointer (some ⟨N, y, none⟩)) (by rfl) (fun w hS => at_dD hy rfl (by kernel_rfl) (by kernel_rfl)) ⟨HJ.out.1, HJ.out.2.2.2.1⟩ ?_
       refine hdv 12 49 (.int .i32 a3) (by rfl) (fun w hS => load_d rfl ((hS.1.cell y).trans HC.out.2.2) (by kernel_rfl)) ⟨HJ.out.1, HJ.out.2.2.2.1⟩ ?_
       refine held_one 13 (by kernel_rfl) ?_
       refine step_call 13 _ _ (some 50) 51 #[.int .i32 a2, .int .i32 a3] (by rfl) (by kernel_rfl) (by first | kernel_rfl | go_simp) ?_
       refine (C1.out X11).mono ?_
       rintro e w12 ⟨rfl, hq⟩
       obtain rfl : X11 = w12 := hq
       refine ⟨_, rfl, ⟨HJ.out.1, HJ.out.2.2.2.1⟩, ?_⟩
       simp only [Act.put, arr9, hd9, tl9]
       refine hdv0 14 9 (.int .i32 a1) (by rfl) ⟨HJ.out.1, HJ.out.2.2.2.1⟩ ?_
       refine hdv0 15 10 (.int .i32 m) (by rfl) ⟨HJ.out.1, HJ.out.2.2.2.1⟩ ?_
       refine wpAnyH_done (by kernel_rfl) ?_ _
       go_wp2
       refine wp_region_held_drew (S := fun w' => True) (by kernel_rfl) trivial (fun hS => ?_)
       clear hS
       obtain ⟨X13, hX13⟩ : ∃ V, V = World.drew X11 := ⟨_, rfl⟩
       rw [← hX13]
       have HK : Shh (Row X13 N 23 (dc (midD H k j (F H (2 * J)) (F (2 * H) J))) ∧ Row X13 (N + 1) 23 (dc fun _ => 0) ∧ Below N w X13 ∧ Row X13 G 22 (dc wI) ∧ N + 1 < G) := by
        obtain ⟨h0, h1, h2, h3, h4⟩ := HJ.out
        rw [hX13]
        exact ⟨h0.drew, h1.drew, h2.drew, h3.drew, h4⟩
       clear hX13 HJ
       refine hdv0 0 51 (.int .i64 (x : Int)) (by rfl) trivial ?_
       refine hdv0 1 52 (.int .i64 (x : Int)) (by rfl) trivial ?_
       refine hdv0 2 53 (.int .i64 (H : Int)) (by rfl) trivial ?_
       refine hdv 3 54 (.int .i64 (y : Int)) (by rfl) (fun w hS => add_n Hy.out rfl (by kernel_rfl) (by kernel_rfl)) trivial ?_
       refine hdv0 4 55 (.int .i32 a1) (by rfl) trivial ?_
       refine hdv0 5 56 (.int .i32 m) (by rfl) trivial ?_
       refine hdv0 7 58 (.int .i32 a1) (by rfl) trivial ?_
       refine hdv0 8 59 (.int .i32 m) (by rfl) trivial ?_
       refine held_one 6 (by kernel_rfl) ?_
       refine step_call 6 _ _ (some 57) 48 #[.int .i32 a1, .int .i32 m] (by rfl) (by kernel_rfl) (by first | kernel_rfl | go_simp) ?_
       refine (C2.out X13).mono ?_
       rintro e w14 ⟨rfl, hq⟩
       obtain rfl : X13 = w14 := hq
       refine ⟨_, rfl, trivial, ?_⟩
       simp only [Act.put, arr9, hd9, tl9]
       refine hdv 10 61 (.pointer (some ⟨N, x, none⟩)) (by rfl) (fun w hS => at_dD hx rfl (by kernel_rfl) (by kernel_rfl)) trivial ?_
       refine held_one 9 (by kernel_rfl) ?_
       refine step_call 9 _ _ (some 60) 49 #[.int .i32 a1, .int .i32 m] (by rfl) (by kernel_rfl) (by first | kernel_rfl | go_simp) ?_
       refine (C3.out X13).mono ?_
       rintro e w15 ⟨rfl, hq⟩
       obtain rfl : X13 = w15 := hq
       refine ⟨_, rfl, trivial, ?_⟩
       simp only [Act.put, arr9, hd9, tl9]
       refine held_one 11 (by kernel_rfl) ?_
       refine step_storeD 11 (v := s1) (by rfl) (by kernel_rfl) hx HK.out.1 (by kernel_rfl) (by kernel_rfl) ?_
       intro w17 r18 bt16 zbt16
       have HL : Shh (Row w17 N 23 (dc (dup (midD H k j (F H (2 * J)) (F (2 * H) J)) x s1)) ∧ Row w17 (N + 1) 23 (dc fun _ => 0) ∧ Below N w w17 ∧ Row w17 G 22 (dc wI) ∧ N + 1 < G) := by
        obtain ⟨h0, h1, h2, h3, h4⟩ := HK.out
        have := h0.lt
        have := h1.lt
        have := h3.lt
        have hb := bt16.under (Nat.le_of_lt h0.lt) (Nat.le_refl _)
        have := hb.size
        exact ⟨r18, bt16.row h1 h1.lt (by omega), h2.trans (hb.mono (by omega)), bt16.row h3 h3.lt (by omega), h4⟩
       clear bt16 HK r18 zbt16
       refine ⟨trivial, ?_⟩
       refine hdv 12 62 (.pointer (some ⟨N, y, none⟩)) (by rfl) (fun w hS => at_dD hy rfl (by kernel_rfl) (by kernel_rfl)) trivial ?_
       refine held_one 13 (by kernel_rfl) ?_
       refine step_storeD 13 (v := s2) (by rfl) (by kernel_rfl) hy HL.out.1 (by kernel_rfl) (by kernel_rfl) ?_
       intro w20 r21 bt19 zbt19
       have HM : Shh (Row w20 N 23 (dc (midD H k (j + 1) (F H (2 * J)) (F (2 * H) J))) ∧ Row w20 (N + 1) 23 (dc fun _ => 0) ∧ Below N w w20 ∧ Row w20 G 22 (dc wI) ∧ N + 1 < G) := by
        obtain ⟨h0, h1, h2, h3, h4⟩ := HL.out
        have := h0.lt
        have := h1.lt
        have := h3.lt
        have hb := bt19.under (Nat.le_of_lt h0.lt) (Nat.le_refl _)
        have := hb.size
        rw [HM2.out] at r21
        exact ⟨r21, bt19.row h1 h1.lt (by omega), h2.trans (hb.mono (by omega)), bt19.row h3 h3.lt (by omega), h4⟩
       clear bt19 HL r21 zbt19
       refine ⟨trivial, ?_⟩
       refine wpAnyH_done (by kernel_rfl) ?_ _
       go_wp2_with (refine wl_at 36 rfl (.int .i64 (x1 : Int)) rfl (add_n Hx1.out rfl rfl rfl) ?_)
       go_roundw
       case rel => exact ⟨j + 1, x1, by omega, ⟨by have := Hx.out; have := Hx1.out; omega⟩, rfl, HM⟩
       case measure => (have := Hx.out; have := Hx1.out; have := HE2.out; simp [intOf]; omega)
      ·have hjt2 : ¬ (x : Int) < (E : Int) := by have := Hx.out; have := HE2.out; omega
       have HJ : Shh (Row wr N 23 (dc (midD H (k + 1) 0 (F H (2 * J)) (F (2 * H) J))) ∧ Row wr (N + 1) 23 (dc fun _ => 0) ∧ Below N w wr ∧ Row wr G 22 (dc wI) ∧ N + 1 < G) := by
        have h := HI.out
        rw [show j = H by omega, qmid_next H k HH.out.1] at h
        exact ⟨h⟩
       clear HI
       go_wp2_with (refine wl_at 33 rfl (.int .i64 (E : Int)) rfl (add_n HE.out rfl rfl rfl) ?_)
       go_roundw
       case rel => exact ⟨k + 1, by omega, by go_num, HJ⟩
       case measure => simp [intOf]; omega
    ·have hkt2 : ¬ (k : Int) < (J : Int) := by omega
     have HJ : Shh (Row wr N 23 (dc (F H (2 * J))) ∧ Row wr (N + 1) 23 (dc fun _ => 0) ∧ Below N w wr ∧ Row wr G 22 (dc wI) ∧ N + 1 < G) := by
      have h := HI.out
      rw [show k = J by omega, qmid_end H J HH.out.1 HH.out.2.2.2.2.1] at h
      exact ⟨h⟩
     clear HI
     obtain ⟨J2, HJ2⟩ : ∃ y : Nat, Shh ((y : Int) = (J : Int) * 2 ∧ -9223372036854775808 ≤ (y : Int) ∧ (y : Int) ≤ 9223372036854775807) := ⟨2 * J, ⟨by omega, by omega, by have := HH.out.2.2.1; omega⟩⟩
     go_wp2_with (refine wl_at 17 rfl (.int .i64 (J2 : Int)) rfl (mul_n HJ2.out rfl rfl rfl) ?_)
     go_roundw
     case rel => exact ⟨2 * J, H, ⟨HH.out.2.2.2.2.2.2.2⟩, by rw [show J2 = 2 * J by have := HJ2.out; omega], HJ⟩
     case measure => (have := HJ2.out; have := HH.out.2.1; simp [intOf]; omega)
  ·have hlt2 : ¬ (J : Int) < 256 := by omega
   obtain ⟨e1, e2⟩ := HJJ.out.last hlt
   have HJ : Shh (Row wr N 23 (dc fin) ∧ Row wr (N + 1) 23 (dc fun _ => 0) ∧ Below N w wr ∧ Row wr G 22 (dc wI) ∧ N + 1 < G) := by
    have h := HI.out
    rw [e1, e2, HLA.out] at h
    exact ⟨h⟩
   clear HI
   go_wp2_with (first | refine wpList_load_any rfl 23 (.tmp 1) rfl N rfl 23 (dc fin) (.array 256 21) HJ.out.1 Try.underlying23 rfl (info_dD.trans (size_dc _)) ?_ | refine wpList_store_any rfl 23 (.tmp 2) (.tmp 64) rfl (N + 1) rfl (dc fin) rfl 23 _ HJ.out.2.1 (info_dD.trans (size_dc _)) (same_dc _ _) (dc_one _) ?_)
   intro w11 r12 bt13 zbt13
   have HK : Shh (Row w11 N 23 (dc fin) ∧ Row w11 (N + 1) 23 (dc fin) ∧ Below N w w11 ∧ Row w11 G 22 (dc wI) ∧ N + 1 < G) := by
    obtain ⟨h0, h1, h2, h3, h4⟩ := HJ.out
    have := h0.lt
    have := h1.lt
    have := h3.lt
    have hb := bt13.under (Nat.le_of_lt h1.lt) (Nat.le_refl _)
    have := hb.size
    exact ⟨bt13.row h0 h0.lt (by omega), r12, h2.trans (hb.mono (by omega)), bt13.row h3 h3.lt (by omega), h4⟩
   clear bt13 HJ r12 zbt13
   go_wp2
   exact ret_row Try.results24 rfl rfl HK.out.2.1 Try.underlying23 rfl (info_dD.trans (size_dc _)) ⟨rfl, HK.out.2.2.1⟩
set_option maxHeartbeats 8000000 in
theorem Inv_any (p : Nat → Int) (hp : ∀ i, i < 256 → i32 (p i)) (w : World) : Calls Try.prog 27 #[polyD p] w (DPolyIs w (invD p)) := by
 unfold DPolyIs polyD
 have HRT : Shh (∀ W, Calls Try.prog 50 #[] W (DPolyIs W wI)) := ⟨fun W => roots_dany W⟩
 obtain ⟨F, HRD, HLA, HS, HB⟩ : ∃ F : Nat → Nat → Nat → Int, Shh (∀ W, Calls Try.prog 12 #[.agg (dc p).toArray] W (DPolyIs W (F 1 256))) ∧ Shh (∀ i, i < 256 → qd (F 256 1 i * 8347681) = invD p i) ∧ Shh (∀ H J k j, (J = 1 ∨ J = 2 ∨ J = 4 ∨ J = 8 ∨ J = 16 ∨ J = 32 ∨ J = 64 ∨ J = 128) → k < J → j < H → F (2 * H) J (2 * H * k + j) = qd (F H (2 * J) (2 * H * k + j) + F H (2 * J) (2 * H * k + j + H)) ∧ F (2 * H) J (2 * H * k + j + H) = qd (wI (2 * J - 1 - k) * qd (F H (2 * J) (2 * H * k + j + H) - F H (2 * J) (2 * H * k + j)))) ∧ Shh (∀ L J i, 0 ≤ F L J i ∧ F L J i < 8380417) :=
  ⟨fun L J => layD (L : Int) L J (invD p), ⟨fun W => by unfold DPolyIs; rw [show dc (layD ((1 : Nat) : Int) 1 256 (invD p)) = dc (redD p) from dc_of fun i hi => layE_start p i hi]; exact Reduce_any p hp W⟩, ⟨fun i hi => (layE_end (invD p) i hi).trans (inv_redD p i)⟩, ⟨fun H J k j h2 h3 h4 => ⟨by
   have h := layE_lo (H : Int) H J k j (by omega) (by omega) h3 h4 (invD p)
   rw [show (2 : Int) * (H : Int) = ((2 * H : Nat) : Int) by omega] at h
   exact h, by
   have h := layE_hi (H : Int) H J k j h2 h3 h4 (invD p)
   rw [show (2 : Int) * (H : Int) = ((2 * H : Nat) : Int) by omega] at h
   exact h⟩⟩, ⟨fun L J i => layD_lt _ L J _ i⟩⟩
 generalize invD p = fin at *
 clear hp
 generalize hN : w.heap.size = N at *
 have FA : Shh (Row ((w.alloc (.cells (dc p).toArray 23)).alloc (.cells (dc fun _ => 0).toArray 23)) N 23 (dc p) ∧ Row ((w.alloc (.cells (dc p).toArray 23)).alloc (.cells (dc fun _ => 0).toArray 23)) (N + 1) 23 (dc fun _ => 0) ∧ Below N w ((w.alloc (.cells (dc p).toArray 23)).alloc (.cells (dc fun _ => 0).toArray 23))) := by
  refine ⟨((Row.new_ hN.symm rfl).alloc _), (Row.new_ (by rw [asz, hN]) rfl), ?_⟩
  rw [← hN]
  exact Below.chain (belA _ _) (belA _ _)
 go_enter Try.func27, Try.ntmps27
 go_wp2_with (first | refine wl_allocD rfl rfl ?_ | refine wpList_load_any rfl 23 (.tmp 1) rfl N rfl 23 (dc p) (.array 256 21) FA.out.1 Try.underlying23 rfl (info_dD.trans (size_dc _)) ?_ | (go_at_call 12; refine (HRD.out _).mono ?_))
 rintro e w1 ⟨rfl, b2⟩
 have FB : Shh (Row w1 N 23 (dc p) ∧ Row w1 (N + 1) 23 (dc fun _ => 0) ∧ Below N w w1) := by
  obtain ⟨h0, h1, h2⟩ := FA.out
  have := h0.lt
  have := h1.lt
  have := b2.size
  exact ⟨h0.go b2, h1.go b2, h2.trans (b2.mono (by omega))⟩
 clear b2 FA HRD
 go_wp2_with (first | refine wpList_store_any rfl 23 (.tmp 1) (.tmp 14) rfl N rfl (dc (F 1 256)) rfl 23 _ FB.out.1 (info_dD.trans (size_dc _)) (same_dc _ _) (dc_one _) ?_)
 intro w3 r4 bt5 zbt5
 have FC : Shh (Row w3 N 23 (dc (F 1 256)) ∧ Row w3 (N + 1) 23 (dc fun _ => 0) ∧ Below N w w3) := by
  obtain ⟨h0, h1, h2⟩ := FB.out
  have := h0.lt
  have := h1.lt
  have hb := bt5.under (Nat.le_of_lt h0.lt) (Nat.le_refl _)
  have := hb.size
  exact ⟨r4, bt5.row h1 h1.lt (by omega), h2.trans (hb.mono (by omega))⟩
 clear bt5 FB r4 zbt5
 go_wp2_with (first | (go_at_call 50; refine (HRT.out _).mono ?_))
 rintro e w6 ⟨rfl, b7⟩
 have FD : Shh (Row w6 N 23 (dc (F 1 256)) ∧ Row w6 (N + 1) 23 (dc fun _ => 0) ∧ Below N w w6) := by
  obtain ⟨h0, h1, h2⟩ := FC.out
  have := h0.lt
  have := h1.lt
  have := b7.size
  exact ⟨h0.go b7, h1.go b7, h2.trans (b7.mono (by omega))⟩
 clear b7 FC HRT
 go_wp2_with (refine wl_newdA 3 wI rfl rfl rfl rfl rfl rfl rfl rfl ?_)
 intro G w9 hG r10 b8
 try simp only [Act.put, arr9, hd9, tl9]
 have FE : Shh (Row w9 N 23 (dc (F 1 256)) ∧ Row w9 (N + 1) 23 (dc fun _ => 0) ∧ Below N w w9 ∧ Row w9 G 22 (dc wI) ∧ N + 1 < G) := by
  obtain ⟨h0, h1, h2⟩ := FD.out
  have := h0.lt
  have := h1.lt
  have := b8.size
  have := hG.out
  exact ⟨h0.go b8, h1.go b8, h2.trans (b8.mono (by omega)), r10, (by omega)⟩
 clear b8 FD r10 hG
 go_wp2
 go_loopw [4] (fun b wr => ∃ J L K : Nat, Shh (isIV J L K) ∧ b = .int .i64 (J : Int) ∧ Shh (Row wr N 23 (dc (F L K)) ∧ Row wr (N + 1) 23 (dc fun _ => 0) ∧ Below N w wr ∧ Row wr G 22 (dc wI) ∧ N + 1 < G)) (fun b _ => (intOf b).toNat)
 case atStart => exact ⟨128, 1, 256, ⟨Or.inl ⟨rfl, rfl, rfl⟩⟩, rfl, FE⟩
 case round =>
  clear FE
  obtain ⟨J, H, K, HJJ, rfl, HI⟩ := hrel
  by_cases hlt : 1 ≤ J
  ·obtain ⟨hK, hH⟩ := HJJ.out.half hlt
   have HH := Shh.mk hH
   clear hH
   subst hK
   have hlt2 : (1 : Int) ≤ (J : Int) := by omega
   have hJ8 : J ≤ 128 := HH.out.2.1
   obtain ⟨A0, HA0⟩ : ∃ a : Int, Shh (a = 2 * (J : Int) ∧ -9223372036854775808 ≤ a ∧ a ≤ 9223372036854775807) := ⟨_, ⟨rfl, by have := HH.out.2.1; omega, by have := HH.out.2.1; omega⟩⟩
   have HQ : Shh ((H : Int) = (256 : Int).tdiv A0 ∧ -9223372036854775808 ≤ (H : Int) ∧ (H : Int) ≤ 9223372036854775807) := by
    have h1 := HH.out.2.2.1
    have h2 := HH.out.2.2.2.2.1
    refine ⟨?_, by omega, by omega⟩
    rw [HA0.out.1, Int.tdiv_eq_ediv_of_nonneg (by decide), h1, Int.natCast_ediv, Int.natCast_mul]
    rfl
   have hA0 : A0 ≠ 0 := by have := HA0.out.1; have := hlt; omega
   go_wp2_with (first | refine wl_at 21 rfl (.int .i64 A0) rfl (mul_n HA0.out rfl rfl rfl) ?_ | refine wl_at 22 rfl (.int .i64 (H : Int)) rfl (quo_n HQ.out hA0 rfl rfl rfl) ?_)
   clear hA0 HQ
   go_loopw [24] (fun c wr2 => ∃ k : Nat, k ≤ J ∧ c = .int .i64 (k : Int) ∧ Shh (Row wr2 N 23 (dc (midD H k 0 (F (2 * H) J) (F H (2 * J)))) ∧ Row wr2 (N + 1) 23 (dc fun _ => 0) ∧ Below N w wr2 ∧ Row wr2 G 22 (dc wI) ∧ N + 1 < G)) (fun c _ => J - (intOf c).toNat)
   case atStart => exact ⟨0, Nat.zero_le _, rfl, ⟨by rw [qmid_start]; exact HI.out⟩⟩
   case round =>
    clear HI
    obtain ⟨k, hk, rfl, HI⟩ := hrel
    by_cases hkt : k < J
    ·have hkt2 : (k : Int) < (J : Int) := by omega
     obtain ⟨A, HA⟩ : ∃ a : Int, Shh (a = 2 * (H : Int) ∧ -9223372036854775808 ≤ a ∧ a ≤ 9223372036854775807) := ⟨_, ⟨rfl, by have := HH.out.2.2.2.2.1; omega, by have := HH.out.2.2.2.2.1; omega⟩⟩
     obtain ⟨X0, HX0⟩ : ∃ X : Nat, Shh (X = 2 * H * k) := ⟨_, ⟨rfl⟩⟩
     have HPL : Shh (∀ j, j < H → X0 + j + H < 256 ∧ X0 = 2 * H * k) := ⟨fun j hj => by have := place_ltQ HH.out.2.2.2.1 hkt hj; rw [HX0.out]; omega⟩
     have HX1 : Shh (X0 + H ≤ 256) := ⟨by have h1 := HPL.out 0 (by have := HH.out.2.2.2.2.2.1; omega); omega⟩
     have HXA : Shh ((X0 : Int) = A * (k : Int) ∧ -9223372036854775808 ≤ (X0 : Int) ∧ (X0 : Int) ≤ 9223372036854775807) := ⟨by rw [HX0.out, HA.out.1, Int.natCast_mul, Int.natCast_mul]; rfl, by omega, by have := HX1.out; omega⟩
     have HE : Shh (((X0 + H : Nat) : Int) = (X0 : Int) + (H : Int) ∧ -9223372036854775808 ≤ ((X0 + H : Nat) : Int) ∧ ((X0 + H : Nat) : Int) ≤ 9223372036854775807) := ⟨by omega, by omega, by have := HX1.out; omega⟩
     obtain ⟨E, hE⟩ : ∃ E : Nat, E = X0 + H := ⟨_, rfl⟩
     rw [← hE] at HE HX1
     have HE2 := Shh.mk hE
     clear hE
     go_wp2_with (first | refine wl_at 28 rfl (.int .i64 A) rfl (mul_n HA.out rfl rfl rfl) ?_ | refine wl_at 30 rfl (.int .i64 (X0 : Int)) rfl (mul_n HXA.out rfl rfl rfl) ?_)
     go_loopw [8] (fun i wr3 => ∃ j x : Nat, j ≤ H ∧ Shh (x = X0 + j) ∧ i = .int .i64 (x : Int) ∧ Shh (Row wr3 N 23 (dc (midD H k j (F (2 * H) J) (F H (2 * J)))) ∧ Row wr3 (N + 1) 23 (dc fun _ => 0) ∧ Below N w wr3 ∧ Row wr3 G 22 (dc wI) ∧ N + 1 < G)) (fun i _ => E - (intOf i).toNat)
     case atStart => exact ⟨0, X0, Nat.zero_le _, ⟨rfl⟩, rfl, HI⟩
     case round =>
      clear HI
      obtain ⟨j, x, hj, Hx, rfl, HI⟩ := hrel
      by_cases hjt : j < H
      ·have hjt2 : (x : Int) < (E : Int) := by have := Hx.out; have := HE2.out; omega
       have HPX := Shh.mk (HPL.out j hjt)
       obtain ⟨y, Hy⟩ : ∃ y : Nat, Shh ((y : Int) = (x : Int) + (H : Int) ∧ -9223372036854775808 ≤ (y : Int) ∧ (y : Int) ≤ 9223372036854775807) := ⟨x + H, ⟨by omega, by omega, by have := Hx.out; have := HPX.out; omega⟩⟩
       obtain ⟨x1, Hx1⟩ : ∃ y : Nat, Shh ((y : Int) = (x : Int) + 1 ∧ -9223372036854775808 ≤ (y : Int) ∧ (y : Int) ≤ 9223372036854775807) := ⟨x + 1, ⟨by omega, by omega, by have := Hx.out; have := HPX.out; omega⟩⟩
       obtain ⟨t, t1, Ht1, Ht, ht0⟩ : ∃ t t1 : Nat, Shh ((t1 : Int) = A0 - 1 ∧ -9223372036854775808 ≤ (t1 : Int) ∧ (t1 : Int) ≤ 9223372036854775807) ∧ Shh ((t : Int) = (t1 : Int) - (k : Int) ∧ -9223372036854775808 ≤ (t : Int) ∧ (t : Int) ≤ 9223372036854775807) ∧ t = 2 * J - 1 - k := ⟨2 * J - 1 - k, 2 * J - 1, ⟨by have := HA0.out.1; omega, by omega, by have := HH.out.2.1; omega⟩, ⟨by omega, by omega, by have := HH.out.2.1; omega⟩, rfl⟩
       have hx : x < 256 := by have := Hx.out; have := HPX.out; omega
       have hy : y < 256 := by have := Hx.out; have := HPX.out; have := Hy.out; omega
       have ht : t < 256 := by have := HH.out.2.1; omega
       have ex : x = 2 * H * k + j := by have := Hx.out; have := HPX.out; omega
       have ey : y = 2 * H * k + j + H := by have := Hy.out; omega
       have HST := HS.out H J k j HH.out.2.2.2.2.2.2.2 hkt hjt
       have HM2 := Shh.mk (qmid_two H k j HH.out.1 hjt (F (2 * H) J) (F H (2 * J)))
       have HML := qmid_lo H k j hjt (F (2 * H) J) (F H (2 * J))
       have HMH := qmid_hi H k j hjt (F (2 * H) J) (F H (2 * J))
       rw [← ey, ← ex, ← ht0] at HST
       rw [← ey, ← ex] at HM2
       rw [← ex] at HML
       rw [← ey] at HMH
       have c1 := dc_get (midD H k j (F (2 * H) J) (F H (2 * J))) hx
       rw [HML] at c1
       have c3 := dc_get (midD H k j (F (2 * H) J) (F H (2 * J))) hy
       rw [HMH] at c3
       have c2 := dc_get wI ht
       have B1 := HB.out H (2 * J) x
       have B3 := HB.out H (2 * J) y
       have B2 := wI_lt t
       clear HML HMH ex ey ht0
       generalize F (2 * H) J x = s1 at *
       generalize F (2 * H) J y = s2 at *
       generalize F H (2 * J) x = a1 at *
       generalize F H (2 * J) y = a3 at *
       generalize wI t = a2 at *
       obtain ⟨m, Hm⟩ : ∃ m, Shh (m = qd (a3 - a1)) := ⟨_, ⟨rfl⟩⟩
       rw [← Hm.out] at HST
       have Bm : 0 ≤ m ∧ m < 8380417 := by rw [Hm.out]; exact qd_lt _
       have C1 : Shh (∀ W, Calls Try.prog 49 #[.int .i32 a3, .int .i32 a1] W (I32Is W m)) := ⟨fun W => by rw [Hm.out]; exact differenceD_any a3 a1 ⟨B3.1, B3.2, B1⟩ W⟩
       have C2 : Shh (∀ W, Calls Try.prog 48 #[.int .i32 a1, .int .i32 a3] W (I32Is W s1)) := ⟨fun W => by rw [HST.1]; exact sumD_any a1 a3 ⟨B1.1, B1.2, B3⟩ W⟩
       have C3 : Shh (∀ W, Calls Try.prog 51 #[.int .i32 a2, .int .i32 m] W (I32Is W s2)) := ⟨fun W => by rw [HST.2]; exact productD_any a2 m ⟨B2.1, B2.2, Bm⟩ W⟩
       have HC := Shh.mk (And.intro c1 (And.intro c2 c3))
       clear c1 c2 c3 HST B1 B2 B3 Bm Hm HPX
       go_wp2_with (refine wl_at 35 rfl (.int .i64 (E : Int)) rfl (add_n HE.out rfl rfl rfl) ?_)
       refine wp_region_held_drew (S := fun w' => Row w' N 23 (dc (midD H k j (F (2 * H) J) (F H (2 * J)))) ∧ Row w' G 22 (dc wI)) (by kernel_rfl) ⟨HI.out.1.drew, HI.out.2.2.2.1.drew⟩ (fun hS => ?_)
       clear hS
       obtain ⟨X11, hX11⟩ : ∃ V, V = World.drew wr := ⟨_, rfl⟩
       rw [← hX11]
       have HJ : Shh (Row X11 N 23 (dc (midD H k j (F (2 * H) J) (F H (2 * J)))) ∧ Row X11 (N + 1) 23 (dc fun _ => 0) ∧ Below N w X11 ∧ Row X11 G 22 (dc wI) ∧ N + 1 < G) := by
        obtain ⟨h0, h1, h2, h3, h4⟩ := HI.out
        rw [hX11]
        exact ⟨h0.drew, h1.drew, h2.drew, h3.drew, h4⟩
       clear hX11 HI
       refine hdv0 0 39 (.int .i64 (x : Int)) (by rfl) ⟨HJ.out.1, HJ.out.2.2.2.1⟩ ?_
       refine hdv 1 40 (.pointer (some ⟨N, x, none⟩)) (by rfl) (fun w hS => at_dD hx rfl (by kernel_rfl) (by kernel_rfl)) ⟨HJ.out.1, HJ.out.2.2.2.1⟩ ?_
       refine hdv 2 41 (.int .i32 a1) (by rfl) (fun w hS => load_d rfl ((hS.1.cell x).trans HC.out.1) (by kernel_rfl)) ⟨HJ.out.1, HJ.out.2.2.2.1⟩ ?_
       refine hdv0 3 42 (.int .i64 (x : Int)) (by rfl) ⟨HJ.out.1, HJ.out.2.2.2.1⟩ ?_
       refine hdv0 4 43 (.int .i64 (H : Int)) (by rfl) ⟨HJ.out.1, HJ.out.2.2.2.1⟩ ?_
       refine hdv 5 44 (.int .i64 (y : Int)) (by rfl) (fun w hS => add_n Hy.out rfl (by kernel_rfl) (by kernel_rfl)) ⟨HJ.out.1, HJ.out.2.2.2.1⟩ ?_
       refine hdv 6 45 (.pointer (some ⟨N, y, none⟩)) (by rfl) (fun w hS => at_dD hy rfl (by kernel_rfl) (by kernel_rfl)) ⟨HJ.out.1, HJ.out.2.2.2.1⟩ ?_
       refine hdv 7 46 (.int .i32 a3) (by rfl) (fun w hS => load_d rfl ((hS.1.cell y).trans HC.out.2.2) (by kernel_rfl)) ⟨HJ.out.1, HJ.out.2.2.2.1⟩ ?_
       refine hdv0 8 9 (.int .i32 a1) (by rfl) ⟨HJ.out.1, HJ.out.2.2.2.1⟩ ?_
       refine hdv0 9 10 (.int .i32 a3) (by rfl) ⟨HJ.out.1, HJ.out.2.2.2.1⟩ ?_
       refine wpAnyH_done (by kernel_rfl) ?_ _
       go_wp2
       refine wp_region_held_drew (S := fun w' => Row w' G 22 (dc wI)) (by kernel_rfl) HJ.out.2.2.2.1.drew (fun hS => ?_)
       clear hS
       obtain ⟨X12, hX12⟩ : ∃ V, V = World.drew X11 := ⟨_, rfl⟩
       rw [← hX12]
       have HK : Shh (Row X12 N 23 (dc (midD H k j (F (2 * H) J) (F H (2 * J)))) ∧ Row X12 (N + 1) 23 (dc fun _ => 0) ∧ Below N w X12 ∧ Row X12 G 22 (dc wI) ∧ N + 1 < G) := by
        obtain ⟨h0, h1, h2, h3, h4⟩ := HJ.out
        rw [hX12]
        exact ⟨h0.drew, h1.drew, h2.drew, h3.drew, h4⟩
       clear hX12 HJ
       refine hdv0 0 47 (.int .i64 (x : Int)) (by rfl) HK.out.2.2.2.1 ?_
       refine hdv0 1 48 (.int .i64 (x : Int)) (by rfl) HK.out.2.2.2.1 ?_
       refine hdv0 2 49 (.int .i64 (H : Int)) (by rfl) HK.out.2.2.2.1 ?_
       refine hdv 3 50 (.int .i64 (y : Int)) (by rfl) (fun w hS => add_n Hy.out rfl (by kernel_rfl) (by kernel_rfl)) HK.out.2.2.2.1 ?_
       refine hdv0 4 51 (.int .i32 a1) (by rfl) HK.out.2.2.2.1 ?_
       refine hdv0 5 52 (.int .i32 a3) (by rfl) HK.out.2.2.2.1 ?_
       refine hdv0 7 54 (.int .i64 (J : Int)) (by rfl) HK.out.2.2.2.1 ?_
       refine hdv 8 55 (.int .i64 A0) (by rfl) (fun w hS => mul_n HA0.out rfl (by kernel_rfl) (by kernel_rfl)) HK.out.2.2.2.1 ?_
       refine hdv 9 56 (.int .i64 (t1 : Int)) (by rfl) (fun w hS => sub_n Ht1.out rfl (by kernel_rfl) (by kernel_rfl)) HK.out.2.2.2.1 ?_
       refine hdv0 10 57 (.int .i64 (k : Int)) (by rfl) HK.out.2.2.2.1 ?_
       refine hdv 11 58 (.int .i64 (t : Int)) (by rfl) (fun w hS => sub_n Ht.out rfl (by kernel_rfl) (by kernel_rfl)) HK.out.2.2.2.1 ?_
       refine hdv 12 59 (.pointer (some ⟨G, t, none⟩)) (by rfl) (fun w hS => at_dA ht rfl (by kernel_rfl) (by kernel_rfl)) HK.out.2.2.2.1 ?_
       refine hdv 13 60 (.int .i32 a2) (by rfl) (fun w hS => load_d rfl ((hS.cell t).trans HC.out.2.1) (by kernel_rfl)) HK.out.2.2.2.1 ?_
       refine hdv0 14 61 (.int .i32 a3) (by rfl) HK.out.2.2.2.1 ?_
       refine hdv0 15 62 (.int .i32 a1) (by rfl) HK.out.2.2.2.1 ?_
       refine held_one 6 (by kernel_rfl) ?_
       refine step_call 6 _ _ (some 53) 48 #[.int .i32 a1, .int .i32 a3] (by rfl) (by kernel_rfl) (by first | kernel_rfl | go_simp) ?_
       refine (C2.out X12).mono ?_
       rintro e w13 ⟨rfl, hq⟩
       obtain rfl : X12 = w13 := hq
       refine ⟨_, rfl, HK.out.2.2.2.1, ?_⟩
       simp only [Act.put, arr9, hd9, tl9]
       refine hdv 18 65 (.pointer (some ⟨N, x, none⟩)) (by rfl) (fun w hS => at_dD hx rfl (by kernel_rfl) (by kernel_rfl)) HK.out.2.2.2.1 ?_
       refine held_one 16 (by kernel_rfl) ?_
       refine step_call 16 _ _ (some 63) 49 #[.int .i32 a3, .int .i32 a1] (by rfl) (by kernel_rfl) (by first | kernel_rfl | go_simp) ?_
       refine (C1.out X12).mono ?_
       rintro e w14 ⟨rfl, hq⟩
       obtain rfl : X12 = w14 := hq
       refine ⟨_, rfl, HK.out.2.2.2.1, ?_⟩
       simp only [Act.put, arr9, hd9, tl9]
       refine held_one 17 (by kernel_rfl) ?_
       refine step_call 17 _ _ (some 64) 51 #[.int .i32 a2, .int .i32 m] (by rfl) (by kernel_rfl) (by first | kernel_rfl | go_simp) ?_
       refine (C3.out X12).mono ?_
       rintro e w15 ⟨rfl, hq⟩
       obtain rfl : X12 = w15 := hq
       refine ⟨_, rfl, HK.out.2.2.2.1, ?_⟩
       simp only [Act.put, arr9, hd9, tl9]
       refine held_one 19 (by kernel_rfl) ?_
       refine step_storeD 19 (v := s1) (by rfl) (by kernel_rfl) hx HK.out.1 (by kernel_rfl) (by kernel_rfl) ?_
       intro w17 r18 bt16 zbt16
       have HL : Shh (Row w17 N 23 (dc (dup (midD H k j (F (2 * H) J) (F H (2 * J))) x s1)) ∧ Row w17 (N + 1) 23 (dc fun _ => 0) ∧ Below N w w17 ∧ Row w17 G 22 (dc wI) ∧ N + 1 < G) := by
        obtain ⟨h0, h1, h2, h3, h4⟩ := HK.out
        have := h0.lt
        have := h1.lt
        have := h3.lt
        have hb := bt16.under (Nat.le_of_lt h0.lt) (Nat.le_refl _)
        have := hb.size
        exact ⟨r18, bt16.row h1 h1.lt (by omega), h2.trans (hb.mono (by omega)), bt16.row h3 h3.lt (by omega), h4⟩
       clear bt16 HK r18 zbt16
       refine ⟨HL.out.2.2.2.1, ?_⟩
       refine hdv 20 66 (.pointer (some ⟨N, y, none⟩)) (by rfl) (fun w hS => at_dD hy rfl (by kernel_rfl) (by kernel_rfl)) HL.out.2.2.2.1 ?_
       refine held_one 21 (by kernel_rfl) ?_
       refine step_storeD 21 (v := s2) (by rfl) (by kernel_rfl) hy HL.out.1 (by kernel_rfl) (by kernel_rfl) ?_
       intro w20 r21 bt19 zbt19
       have HM : Shh (Row w20 N 23 (dc (midD H k (j + 1) (F (2 * H) J) (F H (2 * J)))) ∧ Row w20 (N + 1) 23 (dc fun _ => 0) ∧ Below N w w20 ∧ Row w20 G 22 (dc wI) ∧ N + 1 < G) := by
        obtain ⟨h0, h1, h2, h3, h4⟩ := HL.out
        have := h0.lt
        have := h1.lt
        have := h3.lt
        have hb := bt19.under (Nat.le_of_lt h0.lt) (Nat.le_refl _)
        have := hb.size
        rw [HM2.out] at r21
        exact ⟨r21, bt19.row h1 h1.lt (by omega), h2.trans (hb.mono (by omega)), bt19.row h3 h3.lt (by omega), h4⟩
       clear bt19 HL r21 zbt19
       refine ⟨HM.out.2.2.2.1, ?_⟩
       refine wpAnyH_done (by kernel_rfl) ?_ _
       go_wp2_with (refine wl_at 38 rfl (.int .i64 (x1 : Int)) rfl (add_n Hx1.out rfl rfl rfl) ?_)
       go_roundw
       case rel => exact ⟨j + 1, x1, by omega, ⟨by have := Hx.out; have := Hx1.out; omega⟩, rfl, HM⟩
       case measure => (have := Hx.out; have := Hx1.out; have := HE2.out; simp [intOf]; omega)
      ·have hjt2 : ¬ (x : Int) < (E : Int) := by have := Hx.out; have := HE2.out; omega
       have HJ : Shh (Row wr N 23 (dc (midD H (k + 1) 0 (F (2 * H) J) (F H (2 * J)))) ∧ Row wr (N + 1) 23 (dc fun _ => 0) ∧ Below N w wr ∧ Row wr G 22 (dc wI) ∧ N + 1 < G) := by
        have h := HI.out
        rw [show j = H by omega, qmid_next H k HH.out.1] at h
        exact ⟨h⟩
       clear HI
       go_wp2_with (refine wl_at 35 rfl (.int .i64 (E : Int)) rfl (add_n HE.out rfl rfl rfl) ?_)
       go_roundw
       case rel => exact ⟨k + 1, by omega, by go_num, HJ⟩
       case measure => simp [intOf]; omega
    ·have hkt2 : ¬ (k : Int) < (J : Int) := by omega
     have HJ : Shh (Row wr N 23 (dc (F (2 * H) J)) ∧ Row wr (N + 1) 23 (dc fun _ => 0) ∧ Below N w wr ∧ Row wr G 22 (dc wI) ∧ N + 1 < G) := by
      have h := HI.out
      rw [show k = J by omega, qmid_end H J HH.out.1 HH.out.2.2.2.1] at h
      exact ⟨h⟩
     clear HI
     obtain ⟨J2, HJ2, hj2⟩ : ∃ y : Nat, Shh ((y : Int) = (J : Int).tdiv 2 ∧ -9223372036854775808 ≤ (y : Int) ∧ (y : Int) ≤ 9223372036854775807) ∧ y = J / 2 := ⟨J / 2, ⟨by rw [Int.tdiv_eq_ediv_of_nonneg (by omega)]; omega, by omega, by have := HH.out.2.1; omega⟩, rfl⟩
     have HJ3 := Shh.mk hj2
     clear hj2
     go_wp2_with (refine wl_at 19 rfl (.int .i64 (J2 : Int)) rfl (quo_n HJ2.out (by decide) rfl rfl rfl) ?_)
     go_roundw
     case rel => exact ⟨J / 2, 2 * H, J, ⟨HH.out.2.2.2.2.2.2.1⟩, by rw [HJ3.out], HJ⟩
     case measure => (have := HJ3.out; simp [intOf]; omega)
  ·have hlt2 : ¬ (1 : Int) ≤ (J : Int) := by omega
   obtain ⟨e1, e2, e3⟩ := HJJ.out.last hlt
   have HJ : Shh (Row wr N 23 (dc (F 256 1)) ∧ Row wr (N + 1) 23 (dc fun _ => 0) ∧ Below N w wr ∧ Row wr G 22 (dc wI) ∧ N + 1 < G) := by
    have h := HI.out
    rw [e2, e3] at h
    exact ⟨h⟩
   clear HI
   have HPD : Shh (∀ k, k < 256 → ∀ W, Calls Try.prog 51 #[.int .i32 (F 256 1 k), .int .i32 8347681] W (I32Is W (fin k))) := ⟨fun k hk W => by
    rw [← HLA.out k hk]
    exact productD_any _ _ ⟨(HB.out 256 1 k).1, (HB.out 256 1 k).2, by decide, by decide⟩ W⟩
   clear e1 e2 e3 HLA HB HS HJJ
   generalize F 256 1 = r at *
   go_wp2_with (refine wpList_load_any rfl 23 (.tmp 1) rfl N rfl 23 (dc r) (.array 256 21) HJ.out.1 Try.underlying23 rfl (info_dD.trans (size_dc _)) ?_)
   go_loopw [69] (fun i wr => ∃ k : Nat, k ≤ 256 ∧ i = .int .i64 (k : Int) ∧ Shh (Row wr N 23 (dc (dhf fin r k)) ∧ Row wr (N + 1) 23 (dc fun _ => 0) ∧ Below N w wr ∧ Row wr G 22 (dc wI) ∧ N + 1 < G)) (fun i _ => 256 - (intOf i).toNat)
   case atStart => exact ⟨0, Nat.zero_le _, rfl, ⟨by simp only [dhf_zero]; exact HJ.out⟩⟩
   case round =>
    clear HJ
    obtain ⟨k, hk, rfl, HI⟩ := hrel
    by_cases hlt : k < 256
    ·have HC := Shh.mk (HPD.out k hlt)
     have HN1 := Shh.mk (dhf_next fin r k)
     have HG := Shh.mk (dc_get r hlt)
     generalize fin k = fk at *
     generalize r k = rk at *
     have hlt2 : (k : Int) < 256 := by omega
     go_wp2_with (first | refine wl_at 72 rfl (.int .i32 rk) rfl (idx_dD hlt HG.out rfl rfl rfl) ?_ | (go_at_call 51; refine (HC.out _).mono ?_))
     rintro e w11 ⟨rfl, rfl⟩
     go_wp2_with (first | refine wl_at 76 rfl (.pointer (some ⟨N, k, none⟩)) rfl (at_dD hlt rfl rfl rfl) ?_ | refine wl_storeD rfl hlt rfl rfl rfl HI.out.1 ?_)
     intro w12 r13 bt14 zbt14
     rw [HN1.out] at r13
     have HJ : Shh (Row w12 N 23 (dc (dhf fin r (k + 1))) ∧ Row w12 (N + 1) 23 (dc fun _ => 0) ∧ Below N w w12 ∧ Row w12 G 22 (dc wI) ∧ N + 1 < G) := by
      obtain ⟨h0, h1, h2, h3, h4⟩ := HI.out
      have := h0.lt
      have := h1.lt
      have := h3.lt
      have hb := bt14.under (Nat.le_of_lt h0.lt) (Nat.le_refl _)
      have := hb.size
      exact ⟨r13, bt14.row h1 h1.lt (by omega), h2.trans (hb.mono (by omega)), bt14.row h3 h3.lt (by omega), h4⟩
     clear bt14 HI r13 zbt14
     go_wp2
     go_roundw
     case rel => exact ⟨k + 1, by omega, by go_num, HJ⟩
     case measure => simp [intOf]; omega
    ·have hlt2 : ¬ (k : Int) < 256 := by omega
     have HJ : Shh (Row wr N 23 (dc fin) ∧ Row wr (N + 1) 23 (dc fun _ => 0) ∧ Below N w wr ∧ Row wr G 22 (dc wI) ∧ N + 1 < G) := by
      have h := HI.out
      rw [show k = 256 by omega] at h
      simp only [dhf_all] at h
      exact ⟨h⟩
     clear HI
     go_wp2_with (first | refine wpList_load_any rfl 23 (.tmp 1) rfl N rfl 23 (dc fin) (.array 256 21) HJ.out.1 Try.underlying23 rfl (info_dD.trans (size_dc _)) ?_ | refine wpList_store_any rfl 23 (.tmp 2) (.tmp 78) rfl (N + 1) rfl (dc fin) rfl 23 _ HJ.out.2.1 (info_dD.trans (size_dc _)) (same_dc _ _) (dc_one _) ?_)
     intro w11 r12 bt13 zbt13
     have HK : Shh (Row w11 N 23 (dc fin) ∧ Row w11 (N + 1) 23 (dc fin) ∧ Below N w w11 ∧ Row w11 G 22 (dc wI) ∧ N + 1 < G) := by
      obtain ⟨h0, h1, h2, h3, h4⟩ := HJ.out
      have := h0.lt
      have := h1.lt
      have := h3.lt
      have hb := bt13.under (Nat.le_of_lt h1.lt) (Nat.le_refl _)
      have := hb.size
      exact ⟨bt13.row h0 h0.lt (by omega), r12, h2.trans (hb.mono (by omega)), bt13.row h3 h3.lt (by omega), h4⟩
     clear bt13 HJ r12 zbt13
     go_wp2
     exact ret_row Try.results27 rfl rfl HK.out.2.1 Try.underlying23 rfl (info_dD.trans (size_dc _)) ⟨rfl, HK.out.2.2.1⟩
theorem nttD_32 (p : Nat → Int) (i : Nat) : i32 (nttD p i) := qd_32 _
theorem pairD_32 (p p2 : Nat → Int) (i : Nat) : i32 (pairD p p2 i) := qd_32 _
theorem mulD_32 (p p2 : Nat → Int) (i : Nat) : i32 (mulD p p2 i) := qd_32 _
theorem invD_32 (p : Nat → Int) (i : Nat) : i32 (invD p i) := qd_32 _
set_option maxHeartbeats 4000000 in
theorem Mul_any (p p2 : Nat → Int) (hp : ∀ i, i < 256 → i32 (p i)) (hp2 : ∀ i, i < 256 → i32 (p2 i)) (w : World) : Calls Try.prog 22 #[polyD p, polyD p2] w (DPolyIs w (mulD p p2)) := by
 unfold DPolyIs polyD
 have H1 : Shh (∀ W, Calls Try.prog 24 #[.agg (dc p).toArray] W (DPolyIs W (nttD p))) := ⟨fun W => Ntt_any p hp W⟩
 have H2 : Shh (∀ W, Calls Try.prog 24 #[.agg (dc p2).toArray] W (DPolyIs W (nttD p2))) := ⟨fun W => Ntt_any p2 hp2 W⟩
 have H3 : Shh (∀ W, Calls Try.prog 29 #[.agg (dc (nttD p)).toArray, .agg (dc (nttD p2)).toArray] W (DPolyIs W (pairD (nttD p) (nttD p2)))) := ⟨fun W => MulNtt_any _ _ (fun i _ => nttD_32 p i) (fun i _ => nttD_32 p2 i) W⟩
 have H4 : Shh (∀ W, Calls Try.prog 27 #[.agg (dc (pairD (nttD p) (nttD p2))).toArray] W (DPolyIs W (mulD p p2))) := ⟨fun W => by
  have h := Inv_any _ (fun i _ => pairD_32 (nttD p) (nttD p2) i) W
  unfold DPolyIs at *
  rw [show dc (mulD p p2) = dc (invD (pairD (nttD p) (nttD p2))) from dc_of fun i hi => mul_invD p p2 i hi]
  exact h⟩
 clear hp hp2
 generalize mulD p p2 = fin at *
 generalize pairD (nttD p) (nttD p2) = pr at *
 generalize nttD p = n1 at *
 generalize nttD p2 = n2 at *
 generalize hN : w.heap.size = N at *
 have FA : Shh (Row (((w.alloc (.cells (dc p).toArray 23)).alloc (.cells (dc p2).toArray 23)).alloc (.cells (dc fun _ => 0).toArray 23)) N 23 (dc p) ∧ Row (((w.alloc (.cells (dc p).toArray 23)).alloc (.cells (dc p2).toArray 23)).alloc (.cells (dc fun _ => 0).toArray 23)) (N + 1) 23 (dc p2) ∧ Row (((w.alloc (.cells (dc p).toArray 23)).alloc (.cells (dc p2).toArray 23)).alloc (.cells (dc fun _ => 0).toArray 23)) (N + 2) 23 (dc fun _ => 0) ∧ Below N w (((w.alloc (.cells (dc p).toArray 23)).alloc (.cells (dc p2).toArray 23)).alloc (.cells (dc fun _ => 0).toArray 23))) := by
  refine ⟨(((Row.new_ hN.symm rfl).alloc _).alloc _), ((Row.new_ (by rw [asz, hN]) rfl).alloc _), (Row.new_ (by rw [asz, asz, hN]) rfl), ?_⟩
  rw [← hN]
  exact Below.chain (Below.chain (belA _ _) (belA _ _)) (belA _ _)
 go_enter Try.func22, Try.ntmps22
 obtain ⟨W, hW⟩ : ∃ W, W = (((w.alloc (.cells (dc p).toArray 23)).alloc (.cells (dc p2).toArray 23)).alloc (.cells (dc fun _ => 0).toArray 23)) := ⟨_, rfl⟩
 have FB : Shh (Row W N 23 (dc p) ∧ Row W (N + 1) 23 (dc p2) ∧ Row W (N + 2) 23 (dc fun _ => 0) ∧ Below N w W) := by rw [hW]; exact FA
 clear FA
 go_wp2_with (refine wl_allocD rfl rfl ?_)
 try simp only [asz, hN]
 rw [← hW]
 clear hW
 try simp only [Act.put, arr9, hd9, tl9]
 refine wp_region_held_drew (S := fun w' => Row w' N 23 (dc p) ∧ Row w' (N + 1) 23 (dc p2)) (by kernel_rfl) ⟨FB.out.1.drew, FB.out.2.1.drew⟩ (fun hS => ?_)
 clear hS
 obtain ⟨X1, hX1⟩ : ∃ V, V = World.drew W := ⟨_, rfl⟩
 rw [← hX1]
 have FC : Shh (Row X1 N 23 (dc p) ∧ Row X1 (N + 1) 23 (dc p2) ∧ Row X1 (N + 2) 23 (dc fun _ => 0) ∧ Below N w X1) := by
  obtain ⟨h0, h1, h2, h3⟩ := FB.out
  rw [hX1]
  exact ⟨h0.drew, h1.drew, h2.drew, h3.drew⟩
 clear hX1 FB
 refine held_load 0 23 (.tmp 2) (some 5) (by kernel_rfl) (by rfl) (by kernel_rfl) (N) 0 (by kernel_rfl) (dc p) _ (fun w h => h.1.range) Try.underlying23 rfl (info_dD.trans (size_dc _)) (fun _ _ _ _ h => h) ⟨FC.out.1, FC.out.2.1⟩ ?_
 simp only [Act.put, arr9, hd9, tl9]
 refine held_load 2 23 (.tmp 3) (some 7) (by kernel_rfl) (by rfl) (by kernel_rfl) ((N + 1)) 0 (by kernel_rfl) (dc p2) _ (fun w h => h.2.range) Try.underlying23 rfl (info_dD.trans (size_dc _)) (fun _ _ _ _ h => h) ⟨FC.out.1, FC.out.2.1⟩ ?_
 simp only [Act.put, arr9, hd9, tl9]
 refine held_one 1 (by kernel_rfl) ?_
 refine step_call 1 _ _ (some 6) 24 #[.agg (dc p).toArray] (by rfl) (by kernel_rfl) (by first | kernel_rfl | go_simp) ?_
 refine (H1.out X1).mono ?_
 rintro e w3 ⟨rfl, b2⟩
 have FD : Shh (Row w3 N 23 (dc p) ∧ Row w3 (N + 1) 23 (dc p2) ∧ Row w3 (N + 2) 23 (dc fun _ => 0) ∧ Below N w w3) := by
  obtain ⟨h0, h1, h2, h3⟩ := FC.out
  have := h0.lt
  have := h1.lt
  have := h2.lt
  have := b2.size
  exact ⟨h0.go b2, h1.go b2, h2.go b2, h3.trans (b2.mono (by omega))⟩
 clear b2 FC
 refine ⟨_, rfl, ⟨FD.out.1, FD.out.2.1⟩, ?_⟩
 simp only [Act.put, arr9, hd9, tl9]
 refine held_one 3 (by kernel_rfl) ?_
 refine step_call 3 _ _ (some 8) 24 #[.agg (dc p2).toArray] (by rfl) (by kernel_rfl) (by first | kernel_rfl | go_simp) ?_
 refine (H2.out w3).mono ?_
 rintro e w5 ⟨rfl, b4⟩
 have FE : Shh (Row w5 N 23 (dc p) ∧ Row w5 (N + 1) 23 (dc p2) ∧ Row w5 (N + 2) 23 (dc fun _ => 0) ∧ Below N w w5) := by
  obtain ⟨h0, h1, h2, h3⟩ := FD.out
  have := h0.lt
  have := h1.lt
  have := h2.lt
  have := b4.size
  exact ⟨h0.go b4, h1.go b4, h2.go b4, h3.trans (b4.mono (by omega))⟩
 clear b4 FD
 refine ⟨_, rfl, ⟨FE.out.1, FE.out.2.1⟩, ?_⟩
 simp only [Act.put, arr9, hd9, tl9]
 refine held_one 4 (by kernel_rfl) ?_
 refine step_call 4 _ _ (some 9) 29 #[.agg (dc n1).toArray, .agg (dc n2).toArray] (by rfl) (by kernel_rfl) (by first | kernel_rfl | go_simp) ?_
 refine (H3.out w5).mono ?_
 rintro e w7 ⟨rfl, b6⟩
 have FF : Shh (Row w7 N 23 (dc p) ∧ Row w7 (N + 1) 23 (dc p2) ∧ Row w7 (N + 2) 23 (dc fun _ => 0) ∧ Below N w w7) := by
  obtain ⟨h0, h1, h2, h3⟩ := FE.out
  have := h0.lt
  have := h1.lt
  have := h2.lt
  have := b6.size
  exact ⟨h0.go b6, h1.go b6, h2.go b6, h3.trans (b6.mono (by omega))⟩
 clear b6 FE
 refine ⟨_, rfl, ⟨FF.out.1, FF.out.2.1⟩, ?_⟩
 simp only [Act.put, arr9, hd9, tl9]
 refine held_one 5 (by kernel_rfl) ?_
 refine step_call 5 _ _ (some 10) 27 #[.agg (dc pr).toArray] (by rfl) (by kernel_rfl) (by first | kernel_rfl | go_simp) ?_
 refine (H4.out w7).mono ?_
 rintro e w9 ⟨rfl, b8⟩
 have FG : Shh (Row w9 N 23 (dc p) ∧ Row w9 (N + 1) 23 (dc p2) ∧ Row w9 (N + 2) 23 (dc fun _ => 0) ∧ Below N w w9) := by
  obtain ⟨h0, h1, h2, h3⟩ := FF.out
  have := h0.lt
  have := h1.lt
  have := h2.lt
  have := b8.size
  exact ⟨h0.go b8, h1.go b8, h2.go b8, h3.trans (b8.mono (by omega))⟩
 clear b8 FF
 refine ⟨_, rfl, ⟨FG.out.1, FG.out.2.1⟩, ?_⟩
 simp only [Act.put, arr9, hd9, tl9]
 refine held_one 6 (by kernel_rfl) ?_
 refine step_storeRow 6 23 (.tmp 4) (.tmp 10) (by rfl) (by kernel_rfl) (N + 2) (by kernel_rfl) (dc fin) (by kernel_rfl) 23 _ FG.out.2.2.1 (info_dD.trans (size_dc _)) (same_dc _ _) (dc_one _) ?_
 intro w11 r12 bt10 zbt10
 have FH : Shh (Row w11 N 23 (dc p) ∧ Row w11 (N + 1) 23 (dc p2) ∧ Row w11 (N + 2) 23 (dc fin) ∧ Below N w w11) := by
  obtain ⟨h0, h1, h2, h3⟩ := FG.out
  have := h0.lt
  have := h1.lt
  have := h2.lt
  have hb := bt10.under (Nat.le_of_lt h2.lt) (Nat.le_refl _)
  have := hb.size
  exact ⟨bt10.row h0 h0.lt (by omega), bt10.row h1 h1.lt (by omega), r12, h3.trans (hb.mono (by omega))⟩
 clear bt10 FG r12 zbt10
 refine ⟨⟨FH.out.1, FH.out.2.1⟩, ?_⟩
 refine wpAnyH_done (by kernel_rfl) ?_ _
 go_wp2
 exact ret_row Try.results22 rfl rfl FH.out.2.2.1 Try.underlying23 rfl (info_dD.trans (size_dc _)) ⟨rfl, FH.out.2.2.2⟩
end Go.Proofs.Ytapjiknedghhfaa
