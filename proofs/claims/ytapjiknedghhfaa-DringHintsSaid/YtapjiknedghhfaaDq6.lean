/-
 HINTS: MakeHint and UseHint, the program's and the document's.
-/
import Derived.Test.YtapjiknedghhfaaDq3
import Derived.Test.YtapjiknedghhfaaDq5
import Derived.Test.YtapjiknedghhfaaDh1
namespace Go.Proofs.Ytapjiknedghhfaa
open Go.RowKit
set_option maxRecDepth 100000
def mkH (z r : Nat → Int) (k : Nat) : Bool := decH r k != decH (addD r z) k
def cntH (b : Nat → Bool) : Nat → Nat
 | 0 => 0
 | k + 1 => if b k then cntH b k + 1 else cntH b k
theorem cntH_le (b : Nat → Bool) : ∀ k, cntH b k ≤ k
 | 0 => Nat.le_refl _
 | k + 1 => by
  have := cntH_le b k
  unfold cntH
  split <;> omega
def useD (h : Nat → Bool) (r : Nat → Int) (k : Nat) : Int := if h k then nbD (decH r k) (decL r k) else decH r k
theorem hhf_skip {r p : Nat → Bool} {k : Nat} (h : r k = p k) : hc (hhf r p k) = hc (hhf r p (k + 1)) := by
 rw [← hhf_next]
 refine hc_of fun i _ => ?_
 unfold hup
 by_cases e : i = k
 ·rw [if_pos e, e, h]
  unfold hhf
  rw [if_neg (by omega)]
 ·rw [if_neg e]
theorem nbD_lt (h l : Int) : 0 ≤ nbD h l ∧ nbD h l ≤ 15 := by unfold nbD; split <;> omega
theorem addD_32 (p p2 : Nat → Int) (i : Nat) : i32 (addD p p2 i) := qd_32 _
set_option maxHeartbeats 4000000 in
theorem MakeHint_any (z r : Nat → Int) (hz : ∀ i, i < 256 → i32 (z i)) (hr : ∀ i, i < 256 → i32 (r i)) (w : World) : Calls Try.prog 35 #[polyD z, polyD r] w (HintIs w (mkH z r) (cntH (mkH z r) 256 : Int)) := by
 unfold HintIs polyD
 have HD1 : Shh (∀ W, Calls Try.prog 33 #[.agg (dc r).toArray] W (TwoIs W (decH r) (decL r))) := ⟨fun W => Decompose_any r hr W⟩
 have HAD : Shh (∀ W, Calls Try.prog 18 #[.agg (dc r).toArray, .agg (dc z).toArray] W (DPolyIs W (addD r z))) := ⟨fun W => Add_any r z hr hz W⟩
 have HD2 : Shh (∀ W, Calls Try.prog 33 #[.agg (dc (addD r z)).toArray] W (TwoIs W (decH (addD r z)) (decL (addD r z)))) := ⟨fun W => Decompose_any (addD r z) (fun i _ => addD_32 r z i) W⟩
 have HB : Shh (∀ k, mkH z r k = (decH r k != decH (addD r z) k)) := ⟨fun _ => rfl⟩
 clear hz hr
 generalize mkH z r = b at *
 generalize decH (addD r z) = eh at *
 generalize decL (addD r z) = el at *
 generalize addD r z = s at *
 generalize decH r = dh at *
 generalize decL r = dl at *
 have HM0 : Shh (cntH b 0 = 0) := ⟨rfl⟩
 have HM1 : Shh (∀ k, cntH b (k + 1) = if b k then cntH b k + 1 else cntH b k) := ⟨fun _ => rfl⟩
 have HML := Shh.mk (cntH_le b)
 generalize cntH b = m at *
 generalize hN : w.heap.size = N at *
 have FA : Shh (Row (((w.alloc (.cells (dc z).toArray 23)).alloc (.cells (dc r).toArray 23)).alloc (.cells (hc fun _ => false).toArray 33)) N 23 (dc z) ∧ Row (((w.alloc (.cells (dc z).toArray 23)).alloc (.cells (dc r).toArray 23)).alloc (.cells (hc fun _ => false).toArray 33)) (N + 1) 23 (dc r) ∧ Row (((w.alloc (.cells (dc z).toArray 23)).alloc (.cells (dc r).toArray 23)).alloc (.cells (hc fun _ => false).toArray 33)) (N + 2) 33 (hc fun _ => false) ∧ Below N w (((w.alloc (.cells (dc z).toArray 23)).alloc (.cells (dc r).toArray 23)).alloc (.cells (hc fun _ => false).toArray 33))) := by
  refine ⟨(((Row.new_ hN.symm rfl).alloc _).alloc _), ((Row.new_ (by rw [asz, hN]) rfl).alloc _), (Row.new_ (by rw [asz, asz, hN]) rfl), ?_⟩
  rw [← hN]
  exact Below.chain (Below.chain (belA _ _) (belA _ _)) (belA _ _)
 go_enter Try.func35, Try.ntmps35
 go_wp2_with (first | refine wl_allocH rfl rfl ?_ | refine wpList_load_any rfl 23 (.tmp 3) rfl (N + 1) rfl 23 (dc r) (.array 256 21) FA.out.2.1 Try.underlying23 rfl (info_dD.trans (size_dc _)) ?_ | (go_at_call 33; refine (HD1.out _).mono ?_))
 rintro e w1 ⟨rfl, b2⟩
 have FB : Shh (Row w1 N 23 (dc z) ∧ Row w1 (N + 1) 23 (dc r) ∧ Row w1 (N + 2) 33 (hc fun _ => false) ∧ Below N w w1) := by
  obtain ⟨h0, h1, h2, h3⟩ := FA.out
  have := h0.lt
  have := h1.lt
  have := h2.lt
  have := b2.size
  exact ⟨h0.go b2, h1.go b2, h2.go b2, h3.trans (b2.mono (by omega))⟩
 clear b2 FA HD1
 go_wp2_with (first | refine wl_new2 6 7 (dh) (dl) rfl rfl rfl rfl rfl rfl rfl rfl rfl rfl rfl rfl rfl rfl rfl rfl ?_)
 intro G6 G7 w4 hG6 hG7 r5 q6 b3
 try simp only [Act.put, arr9, hd9, tl9]
 have FC : Shh (Row w4 N 23 (dc z) ∧ Row w4 (N + 1) 23 (dc r) ∧ Row w4 (N + 2) 33 (hc fun _ => false) ∧ Below N w w4 ∧ Row w4 G6 23 (dc dh) ∧ Row w4 G7 23 (dc dl) ∧ N + 2 < G6 ∧ G6 < G7) := by
  obtain ⟨h0, h1, h2, h3⟩ := FB.out
  have := h0.lt
  have := h1.lt
  have := h2.lt
  have := b3.size
  have := hG6.out
  have := hG7.out
  exact ⟨h0.go b3, h1.go b3, h2.go b3, h3.trans (b3.mono (by omega)), r5, q6, (by omega), (by omega)⟩
 clear b3 FB r5 q6 hG6 hG7
 go_wp2_with (first | refine wpList_load_any rfl 23 (.tmp 3) rfl (N + 1) rfl 23 (dc r) (.array 256 21) FC.out.2.1 Try.underlying23 rfl (info_dD.trans (size_dc _)) ?_ | refine wpList_load_any rfl 23 (.tmp 2) rfl N rfl 23 (dc z) (.array 256 21) FC.out.1 Try.underlying23 rfl (info_dD.trans (size_dc _)) ?_ | (go_at_call 18; refine (HAD.out _).mono ?_))
 rintro e w7 ⟨rfl, b8⟩
 have FD : Shh (Row w7 N 23 (dc z) ∧ Row w7 (N + 1) 23 (dc r) ∧ Row w7 (N + 2) 33 (hc fun _ => false) ∧ Below N w w7 ∧ Row w7 G6 23 (dc dh) ∧ Row w7 G7 23 (dc dl) ∧ N + 2 < G6 ∧ G6 < G7) := by
  obtain ⟨h0, h1, h2, h3, h4, h5, h6, h7⟩ := FC.out
  have := h0.lt
  have := h1.lt
  have := h2.lt
  have := h4.lt
  have := h5.lt
  have := b8.size
  exact ⟨h0.go b8, h1.go b8, h2.go b8, h3.trans (b8.mono (by omega)), h4.go b8, h5.go b8, h6, h7⟩
 clear b8 FC HAD
 go_wp2_with (first | (go_at_call 33; refine (HD2.out _).mono ?_))
 rintro e w9 ⟨rfl, b10⟩
 have FE : Shh (Row w9 N 23 (dc z) ∧ Row w9 (N + 1) 23 (dc r) ∧ Row w9 (N + 2) 33 (hc fun _ => false) ∧ Below N w w9 ∧ Row w9 G6 23 (dc dh) ∧ Row w9 G7 23 (dc dl) ∧ N + 2 < G6 ∧ G6 < G7) := by
  obtain ⟨h0, h1, h2, h3, h4, h5, h6, h7⟩ := FD.out
  have := h0.lt
  have := h1.lt
  have := h2.lt
  have := h4.lt
  have := h5.lt
  have := b10.size
  exact ⟨h0.go b10, h1.go b10, h2.go b10, h3.trans (b10.mono (by omega)), h4.go b10, h5.go b10, h6, h7⟩
 clear b10 FD HD2
 go_wp2_with (first | refine wl_new2 8 9 (eh) (el) rfl rfl rfl rfl rfl rfl rfl rfl rfl rfl rfl rfl rfl rfl rfl rfl ?_)
 intro G8 G9 w12 hG8 hG9 r13 q14 b11
 try simp only [Act.put, arr9, hd9, tl9]
 have FF : Shh (Row w12 N 23 (dc z) ∧ Row w12 (N + 1) 23 (dc r) ∧ Row w12 (N + 2) 33 (hc fun _ => false) ∧ Below N w w12 ∧ Row w12 G6 23 (dc dh) ∧ Row w12 G7 23 (dc dl) ∧ N + 2 < G6 ∧ G6 < G7 ∧ Row w12 G8 23 (dc eh) ∧ Row w12 G9 23 (dc el) ∧ G7 < G8 ∧ G8 < G9) := by
  obtain ⟨h0, h1, h2, h3, h4, h5, h6, h7⟩ := FE.out
  have := h0.lt
  have := h1.lt
  have := h2.lt
  have := h4.lt
  have := h5.lt
  have := b11.size
  have := hG8.out
  have := hG9.out
  exact ⟨h0.go b11, h1.go b11, h2.go b11, h3.trans (b11.mono (by omega)), h4.go b11, h5.go b11, h6, h7, r13, q14, (by omega), (by omega)⟩
 clear b11 FE r13 q14 hG8 hG9
 go_wp2_with (refine wl_newzH 10 rfl rfl rfl ?_)
 intro G10 w16 hG10 r17 b15
 try simp only [Act.put, arr9, hd9, tl9]
 have FG : Shh (Row w16 N 23 (dc z) ∧ Row w16 (N + 1) 23 (dc r) ∧ Row w16 (N + 2) 33 (hc fun _ => false) ∧ Below N w w16 ∧ Row w16 G6 23 (dc dh) ∧ Row w16 G7 23 (dc dl) ∧ N + 2 < G6 ∧ G6 < G7 ∧ Row w16 G8 23 (dc eh) ∧ Row w16 G9 23 (dc el) ∧ G7 < G8 ∧ G8 < G9 ∧ Row w16 G10 33 (hc fun _ => false) ∧ G9 < G10) := by
  obtain ⟨h0, h1, h2, h3, h4, h5, h6, h7, h8, h9, h10, h11⟩ := FF.out
  have := h0.lt
  have := h1.lt
  have := h2.lt
  have := h4.lt
  have := h5.lt
  have := h8.lt
  have := h9.lt
  have := b15.size
  have := hG10.out
  exact ⟨h0.go b15, h1.go b15, h2.go b15, h3.trans (b15.mono (by omega)), h4.go b15, h5.go b15, h6, h7, h8.go b15, h9.go b15, h10, h11, r17, (by omega)⟩
 clear b15 FF r17 hG10
 go_wp2_with (refine wpList_load_any rfl 23 (.tmp 6) rfl G6 rfl 23 (dc dh) (.array 256 21) FG.out.2.2.2.2.1 Try.underlying23 rfl (info_dD.trans (size_dc _)) ?_)
 go_loopw [11, 27] (fun c i wr => ∃ k : Nat, k ≤ 256 ∧ i = .int .i64 (k : Int) ∧ c = .int .i64 (m k : Int) ∧ Shh (Row wr N 23 (dc z) ∧ Row wr (N + 1) 23 (dc r) ∧ Row wr (N + 2) 33 (hc fun _ => false) ∧ Below N w wr ∧ Row wr G6 23 (dc dh) ∧ Row wr G7 23 (dc dl) ∧ N + 2 < G6 ∧ G6 < G7 ∧ Row wr G8 23 (dc eh) ∧ Row wr G9 23 (dc el) ∧ G7 < G8 ∧ G8 < G9 ∧ Row wr G10 33 (hc (hhf b (fun _ => false) k)) ∧ G9 < G10)) (fun _ i _ => 256 - (intOf i).toNat)
 case atStart => exact ⟨0, Nat.zero_le _, rfl, by rw [HM0.out]; rfl, ⟨by simp only [hhf_zero]; exact FG.out⟩⟩
 case round =>
  clear FG
  obtain ⟨k, hk, rfl, rfl, HI⟩ := hrel
  by_cases hlt : k < 256
  ·have HN1 := Shh.mk (hhf_next b (fun _ => false) k)
   have HSK := Shh.mk (hhf_skip (r := b) (p := fun _ => false) (k := k))
   have HG1 := Shh.mk (dc_get dh hlt)
   have HG2 := Shh.mk (dc_get eh hlt)
   have HBK := HB.out k
   have HMK := HM1.out k
   have HLK := HML.out k
   generalize hMN : m (k + 1) = m1 at *
   have HMN := Shh.mk hMN
   clear hMN
   generalize m k = mk at *
   generalize dh k = x at *
   generalize eh k = y at *
   generalize b k = bk at *
   have hlt2 : (k : Int) < 256 := by omega
   cases bk
   ·have HNE : Shh ((y != x) = false) := ⟨by rw [HBK, bne_comm]⟩
    have HME : Shh (m1 = mk) := ⟨by have h := HMK; rw [if_neg (by decide)] at h; exact h⟩
    rw [HSK.out rfl] at HI
    clear HBK HMK HLK HSK
    have HL := Shh.mk ((HI.out.2.2.2.2.2.2.2.2.1.cell k).trans HG2.out)
    go_wp2_with (first | refine wl_at 30 rfl (.int .i32 x) rfl (idx_dD hlt HG1.out rfl rfl rfl) ?_ | refine wl_at 32 rfl (.pointer (some ⟨G8, k, none⟩)) rfl (at_dD hlt rfl rfl rfl) ?_ | refine wl_at 33 rfl (.int .i32 y) rfl (load_d rfl HL.out rfl) ?_ | refine wl_at 35 rfl (.bool false) rfl (neq_d false HNE.out rfl rfl rfl) ?_)
    go_roundw
    case rel => exact ⟨k + 1, by omega, by go_num, by rw [HMN.out, HME.out], HI⟩
    case measure => simp [intOf]; omega
   ·have HNE : Shh ((y != x) = true) := ⟨by rw [HBK, bne_comm]⟩
    have HAD : Shh ((m1 : Int) = (mk : Int) + 1 ∧ -9223372036854775808 ≤ (m1 : Int) ∧ (m1 : Int) ≤ 9223372036854775807) := ⟨by have h := HMK; rw [if_pos rfl] at h; omega⟩
    clear HBK HMK HLK HSK
    have HL := Shh.mk ((HI.out.2.2.2.2.2.2.2.2.1.cell k).trans HG2.out)
    go_wp2_with (first | refine wl_at 30 rfl (.int .i32 x) rfl (idx_dD hlt HG1.out rfl rfl rfl) ?_ | refine wl_at 32 rfl (.pointer (some ⟨G8, k, none⟩)) rfl (at_dD hlt rfl rfl rfl) ?_ | refine wl_at 33 rfl (.int .i32 y) rfl (load_d rfl HL.out rfl) ?_ | refine wl_at 35 rfl (.bool true) rfl (neq_d true HNE.out rfl rfl rfl) ?_ | refine wl_at 37 rfl (.pointer (some ⟨G10, k, none⟩)) rfl (at_dH hlt rfl rfl rfl) ?_ | refine wl_storeH rfl hlt rfl rfl rfl HI.out.2.2.2.2.2.2.2.2.2.2.2.2.1 ?_)
    intro w18 r19 bt20 zbt20
    rw [HN1.out] at r19
    have HJ : Shh (Row w18 N 23 (dc z) ∧ Row w18 (N + 1) 23 (dc r) ∧ Row w18 (N + 2) 33 (hc fun _ => false) ∧ Below N w w18 ∧ Row w18 G6 23 (dc dh) ∧ Row w18 G7 23 (dc dl) ∧ N + 2 < G6 ∧ G6 < G7 ∧ Row w18 G8 23 (dc eh) ∧ Row w18 G9 23 (dc el) ∧ G7 < G8 ∧ G8 < G9 ∧ Row w18 G10 33 (hc (hhf b (fun _ => false) (k + 1))) ∧ G9 < G10) := by
     obtain ⟨h0, h1, h2, h3, h4, h5, h6, h7, h8, h9, h10, h11, h12, h13⟩ := HI.out
     have := h0.lt
     have := h1.lt
     have := h2.lt
     have := h4.lt
     have := h5.lt
     have := h8.lt
     have := h9.lt
     have := h12.lt
     have hb := bt20.under (Nat.le_of_lt h12.lt) (Nat.le_refl _)
     have := hb.size
     exact ⟨bt20.row h0 h0.lt (by omega), bt20.row h1 h1.lt (by omega), bt20.row h2 h2.lt (by omega), h3.trans (hb.mono (by omega)), bt20.row h4 h4.lt (by omega), bt20.row h5 h5.lt (by omega), h6, h7, bt20.row h8 h8.lt (by omega), bt20.row h9 h9.lt (by omega), h10, h11, r19, h13⟩
    clear bt20 HI r19 zbt20
    go_wp2_with (refine wl_at 39 rfl (.int .i64 (m1 : Int)) rfl (add_n HAD.out rfl rfl rfl) ?_)
    go_roundw
    case rel => exact ⟨k + 1, by omega, by go_num, by rw [HMN.out], HJ⟩
    case measure => simp [intOf]; omega
  ·have hlt2 : ¬ (k : Int) < 256 := by omega
   have e : k = 256 := by omega
   have HZ : Shh ((m k : Int) = (m 256 : Int)) := ⟨by rw [e]⟩
   clear e
   have HJ : Shh (Row wr N 23 (dc z) ∧ Row wr (N + 1) 23 (dc r) ∧ Row wr (N + 2) 33 (hc fun _ => false) ∧ Below N w wr ∧ Row wr G6 23 (dc dh) ∧ Row wr G7 23 (dc dl) ∧ N + 2 < G6 ∧ G6 < G7 ∧ Row wr G8 23 (dc eh) ∧ Row wr G9 23 (dc el) ∧ G7 < G8 ∧ G8 < G9 ∧ Row wr G10 33 (hc b) ∧ G9 < G10) := by
    have h := HI.out
    rw [show k = 256 by omega] at h
    simp only [hhf_all] at h
    exact ⟨h⟩
   clear HI
   generalize (m k : Int) = mk at *
   go_wp2_with (first | refine wpList_load_any rfl 33 (.tmp 10) rfl G10 rfl 33 (hc b) (.array 256 4) HJ.out.2.2.2.2.2.2.2.2.2.2.2.2.1 Try.underlying33 rfl (info_dH.trans (size_hc _)) ?_ | refine wpList_store_any rfl 33 (.tmp 4) (.tmp 41) rfl (N + 2) rfl (hc b) rfl 33 _ HJ.out.2.2.1 (info_dH.trans (size_hc _)) (same_hc _ _) (hc_one _) ?_)
   intro w18 r19 bt20 zbt20
   have HK : Shh (Row w18 N 23 (dc z) ∧ Row w18 (N + 1) 23 (dc r) ∧ Row w18 (N + 2) 33 (hc b) ∧ Below N w w18 ∧ Row w18 G6 23 (dc dh) ∧ Row w18 G7 23 (dc dl) ∧ N + 2 < G6 ∧ G6 < G7 ∧ Row w18 G8 23 (dc eh) ∧ Row w18 G9 23 (dc el) ∧ G7 < G8 ∧ G8 < G9 ∧ Row w18 G10 33 (hc b) ∧ G9 < G10) := by
    obtain ⟨h0, h1, h2, h3, h4, h5, h6, h7, h8, h9, h10, h11, h12, h13⟩ := HJ.out
    have := h0.lt
    have := h1.lt
    have := h2.lt
    have := h4.lt
    have := h5.lt
    have := h8.lt
    have := h9.lt
    have := h12.lt
    have hb := bt20.under (Nat.le_of_lt h2.lt) (Nat.le_refl _)
    have := hb.size
    exact ⟨bt20.row h0 h0.lt (by omega), bt20.row h1 h1.lt (by omega), r19, h3.trans (hb.mono (by omega)), bt20.row h4 h4.lt (by omega), bt20.row h5 h5.lt (by omega), h6, h7, bt20.row h8 h8.lt (by omega), bt20.row h9 h9.lt (by omega), h10, h11, bt20.row h12 h12.lt (by omega), h13⟩
   clear bt20 HJ r19 zbt20
   go_wp2
   exact ret_row_slotD Try.results35 rfl rfl rfl HK.out.2.2.1 Try.underlying33 rfl (info_dH.trans (size_hc _)) ⟨by rw [HZ.out]; rfl, HK.out.2.2.2.1⟩
set_option maxHeartbeats 4000000 in
theorem refMakeHint_any (z r : Nat → Int) (hz : ∀ i, i < 256 → i32 (z i)) (hr : ∀ i, i < 256 → i32 (r i)) (w : World) : Calls Try.prog 36 #[polyD z, polyD r] w (HintIs w (mkH z r) (cntH (mkH z r) 256 : Int)) := by
 unfold HintIs polyD
 have HD1 : Shh (∀ W, Calls Try.prog 34 #[.agg (dc r).toArray] W (TwoIs W (decH r) (decL r))) := ⟨fun W => refDecompose_any r hr W⟩
 have HAD : Shh (∀ W, Calls Try.prog 19 #[.agg (dc r).toArray, .agg (dc z).toArray] W (DPolyIs W (addD r z))) := ⟨fun W => refAdd_any r z hr hz W⟩
 have HD2 : Shh (∀ W, Calls Try.prog 34 #[.agg (dc (addD r z)).toArray] W (TwoIs W (decH (addD r z)) (decL (addD r z)))) := ⟨fun W => refDecompose_any (addD r z) (fun i _ => addD_32 r z i) W⟩
 have HB : Shh (∀ k, mkH z r k = (decH r k != decH (addD r z) k)) := ⟨fun _ => rfl⟩
 clear hz hr
 generalize mkH z r = b at *
 generalize decH (addD r z) = eh at *
 generalize decL (addD r z) = el at *
 generalize addD r z = s at *
 generalize decH r = dh at *
 generalize decL r = dl at *
 have HM0 : Shh (cntH b 0 = 0) := ⟨rfl⟩
 have HM1 : Shh (∀ k, cntH b (k + 1) = if b k then cntH b k + 1 else cntH b k) := ⟨fun _ => rfl⟩
 have HML := Shh.mk (cntH_le b)
 generalize cntH b = m at *
 generalize hN : w.heap.size = N at *
 have FA : Shh (Row (((w.alloc (.cells (dc z).toArray 23)).alloc (.cells (dc r).toArray 23)).alloc (.cells (hc fun _ => false).toArray 33)) N 23 (dc z) ∧ Row (((w.alloc (.cells (dc z).toArray 23)).alloc (.cells (dc r).toArray 23)).alloc (.cells (hc fun _ => false).toArray 33)) (N + 1) 23 (dc r) ∧ Row (((w.alloc (.cells (dc z).toArray 23)).alloc (.cells (dc r).toArray 23)).alloc (.cells (hc fun _ => false).toArray 33)) (N + 2) 33 (hc fun _ => false) ∧ Below N w (((w.alloc (.cells (dc z).toArray 23)).alloc (.cells (dc r).toArray 23)).alloc (.cells (hc fun _ => false).toArray 33))) := by
  refine ⟨(((Row.new_ hN.symm rfl).alloc _).alloc _), ((Row.new_ (by rw [asz, hN]) rfl).alloc _), (Row.new_ (by rw [asz, asz, hN]) rfl), ?_⟩
  rw [← hN]
  exact Below.chain (Below.chain (belA _ _) (belA _ _)) (belA _ _)
 go_enter Try.func36, Try.ntmps36
 go_wp2_with (first | refine wl_allocH rfl rfl ?_ | refine wpList_load_any rfl 23 (.tmp 3) rfl (N + 1) rfl 23 (dc r) (.array 256 21) FA.out.2.1 Try.underlying23 rfl (info_dD.trans (size_dc _)) ?_ | (go_at_call 34; refine (HD1.out _).mono ?_))
 rintro e w1 ⟨rfl, b2⟩
 have FB : Shh (Row w1 N 23 (dc z) ∧ Row w1 (N + 1) 23 (dc r) ∧ Row w1 (N + 2) 33 (hc fun _ => false) ∧ Below N w w1) := by
  obtain ⟨h0, h1, h2, h3⟩ := FA.out
  have := h0.lt
  have := h1.lt
  have := h2.lt
  have := b2.size
  exact ⟨h0.go b2, h1.go b2, h2.go b2, h3.trans (b2.mono (by omega))⟩
 clear b2 FA HD1
 go_wp2_with (first | refine wl_new2 6 7 (dh) (dl) rfl rfl rfl rfl rfl rfl rfl rfl rfl rfl rfl rfl rfl rfl rfl rfl ?_)
 intro G6 G7 w4 hG6 hG7 r5 q6 b3
 try simp only [Act.put, arr9, hd9, tl9]
 have FC : Shh (Row w4 N 23 (dc z) ∧ Row w4 (N + 1) 23 (dc r) ∧ Row w4 (N + 2) 33 (hc fun _ => false) ∧ Below N w w4 ∧ Row w4 G6 23 (dc dh) ∧ Row w4 G7 23 (dc dl) ∧ N + 2 < G6 ∧ G6 < G7) := by
  obtain ⟨h0, h1, h2, h3⟩ := FB.out
  have := h0.lt
  have := h1.lt
  have := h2.lt
  have := b3.size
  have := hG6.out
  have := hG7.out
  exact ⟨h0.go b3, h1.go b3, h2.go b3, h3.trans (b3.mono (by omega)), r5, q6, (by omega), (by omega)⟩
 clear b3 FB r5 q6 hG6 hG7
 go_wp2_with (first | refine wpList_load_any rfl 23 (.tmp 3) rfl (N + 1) rfl 23 (dc r) (.array 256 21) FC.out.2.1 Try.underlying23 rfl (info_dD.trans (size_dc _)) ?_ | refine wpList_load_any rfl 23 (.tmp 2) rfl N rfl 23 (dc z) (.array 256 21) FC.out.1 Try.underlying23 rfl (info_dD.trans (size_dc _)) ?_ | (go_at_call 19; refine (HAD.out _).mono ?_))
 rintro e w7 ⟨rfl, b8⟩
 have FD : Shh (Row w7 N 23 (dc z) ∧ Row w7 (N + 1) 23 (dc r) ∧ Row w7 (N + 2) 33 (hc fun _ => false) ∧ Below N w w7 ∧ Row w7 G6 23 (dc dh) ∧ Row w7 G7 23 (dc dl) ∧ N + 2 < G6 ∧ G6 < G7) := by
  obtain ⟨h0, h1, h2, h3, h4, h5, h6, h7⟩ := FC.out
  have := h0.lt
  have := h1.lt
  have := h2.lt
  have := h4.lt
  have := h5.lt
  have := b8.size
  exact ⟨h0.go b8, h1.go b8, h2.go b8, h3.trans (b8.mono (by omega)), h4.go b8, h5.go b8, h6, h7⟩
 clear b8 FC HAD
 go_wp2_with (first | (go_at_call 34; refine (HD2.out _).mono ?_))
 rintro e w9 ⟨rfl, b10⟩
 have FE : Shh (Row w9 N 23 (dc z) ∧ Row w9 (N + 1) 23 (dc r) ∧ Row w9 (N + 2) 33 (hc fun _ => false) ∧ Below N w w9 ∧ Row w9 G6 23 (dc dh) ∧ Row w9 G7 23 (dc dl) ∧ N + 2 < G6 ∧ G6 < G7) := by
  obtain ⟨h0, h1, h2, h3, h4, h5, h6, h7⟩ := FD.out
  have := h0.lt
  have := h1.lt
  have := h2.lt
  have := h4.lt
  have := h5.lt
  have := b10.size
  exact ⟨h0.go b10, h1.go b10, h2.go b10, h3.trans (b10.mono (by omega)), h4.go b10, h5.go b10, h6, h7⟩
 clear b10 FD HD2
 go_wp2_with (first | refine wl_new2 8 9 (eh) (el) rfl rfl rfl rfl rfl rfl rfl rfl rfl rfl rfl rfl rfl rfl rfl rfl ?_)
 intro G8 G9 w12 hG8 hG9 r13 q14 b11
 try simp only [Act.put, arr9, hd9, tl9]
 have FF : Shh (Row w12 N 23 (dc z) ∧ Row w12 (N + 1) 23 (dc r) ∧ Row w12 (N + 2) 33 (hc fun _ => false) ∧ Below N w w12 ∧ Row w12 G6 23 (dc dh) ∧ Row w12 G7 23 (dc dl) ∧ N + 2 < G6 ∧ G6 < G7 ∧ Row w12 G8 23 (dc eh) ∧ Row w12 G9 23 (dc el) ∧ G7 < G8 ∧ G8 < G9) := by
  obtain ⟨h0, h1, h2, h3, h4, h5, h6, h7⟩ := FE.out
  have := h0.lt
  have := h1.lt
  have := h2.lt
  have := h4.lt
  have := h5.lt
  have := b11.size
  have := hG8.out
  have := hG9.out
  exact ⟨h0.go b11, h1.go b11, h2.go b11, h3.trans (b11.mono (by omega)), h4.go b11, h5.go b11, h6, h7, r13, q14, (by omega), (by omega)⟩
 clear b11 FE r13 q14 hG8 hG9
 go_wp2_with (refine wl_newzH 10 rfl rfl rfl ?_)
 intro G10 w16 hG10 r17 b15
 try simp only [Act.put, arr9, hd9, tl9]
 have FG : Shh (Row w16 N 23 (dc z) ∧ Row w16 (N + 1) 23 (dc r) ∧ Row w16 (N + 2) 33 (hc fun _ => false) ∧ Below N w w16 ∧ Row w16 G6 23 (dc dh) ∧ Row w16 G7 23 (dc dl) ∧ N + 2 < G6 ∧ G6 < G7 ∧ Row w16 G8 23 (dc eh) ∧ Row w16 G9 23 (dc el) ∧ G7 < G8 ∧ G8 < G9 ∧ Row w16 G10 33 (hc fun _ => false) ∧ G9 < G10) := by
  obtain ⟨h0, h1, h2, h3, h4, h5, h6, h7, h8, h9, h10, h11⟩ := FF.out
  have := h0.lt
  have := h1.lt
  have := h2.lt
  have := h4.lt
  have := h5.lt
  have := h8.lt
  have := h9.lt
  have := b15.size
  have := hG10.out
  exact ⟨h0.go b15, h1.go b15, h2.go b15, h3.trans (b15.mono (by omega)), h4.go b15, h5.go b15, h6, h7, h8.go b15, h9.go b15, h10, h11, r17, (by omega)⟩
 clear b15 FF r17 hG10
 go_wp2
 go_loopw [11, 25] (fun c i wr => ∃ k : Nat, k ≤ 256 ∧ i = .int .i64 (k : Int) ∧ c = .int .i64 (m k : Int) ∧ Shh (Row wr N 23 (dc z) ∧ Row wr (N + 1) 23 (dc r) ∧ Row wr (N + 2) 33 (hc fun _ => false) ∧ Below N w wr ∧ Row wr G6 23 (dc dh) ∧ Row wr G7 23 (dc dl) ∧ N + 2 < G6 ∧ G6 < G7 ∧ Row wr G8 23 (dc eh) ∧ Row wr G9 23 (dc el) ∧ G7 < G8 ∧ G8 < G9 ∧ Row wr G10 33 (hc (hhf b (fun _ => false) k)) ∧ G9 < G10)) (fun _ i _ => 256 - (intOf i).toNat)
 case atStart => exact ⟨0, Nat.zero_le _, rfl, by rw [HM0.out]; rfl, ⟨by simp only [hhf_zero]; exact FG.out⟩⟩
 case round =>
  clear FG
  obtain ⟨k, hk, rfl, rfl, HI⟩ := hrel
  by_cases hlt : k < 256
  ·have HN1 := Shh.mk (hhf_next b (fun _ => false) k)
   have HSK := Shh.mk (hhf_skip (r := b) (p := fun _ => false) (k := k))
   have HG1 := Shh.mk (dc_get dh hlt)
   have HG2 := Shh.mk (dc_get eh hlt)
   have HBK := HB.out k
   have HMK := HM1.out k
   have HLK := HML.out k
   generalize hMN : m (k + 1) = m1 at *
   have HMN := Shh.mk hMN
   clear hMN
   generalize m k = mk at *
   generalize dh k = x at *
   generalize eh k = y at *
   generalize b k = bk at *
   have hlt2 : (k : Int) < 256 := by omega
   cases bk
   ·have HNE : Shh ((x != y) = false) := ⟨by rw [← HBK]⟩
    have HME : Shh (m1 = mk) := ⟨by have h := HMK; rw [if_neg (by decide)] at h; exact h⟩
    rw [HSK.out rfl] at HI
    clear HBK HMK HLK HSK
    go_wp2
    refine wp_region_held_drew (S := fun w' => Row w' G6 23 (dc dh) ∧ Row w' G8 23 (dc eh)) (by kernel_rfl) ⟨HI.out.2.2.2.2.1.drew, HI.out.2.2.2.2.2.2.2.2.1.drew⟩ (fun hS => ?_)
    clear hS
    obtain ⟨X18, hX18⟩ : ∃ V, V = World.drew wr := ⟨_, rfl⟩
    rw [← hX18]
    have HJ : Shh (Row X18 N 23 (dc z) ∧ Row X18 (N + 1) 23 (dc r) ∧ Row X18 (N + 2) 33 (hc fun _ => false) ∧ Below N w X18 ∧ Row X18 G6 23 (dc dh) ∧ Row X18 G7 23 (dc dl) ∧ N + 2 < G6 ∧ G6 < G7 ∧ Row X18 G8 23 (dc eh) ∧ Row X18 G9 23 (dc el) ∧ G7 < G8 ∧ G8 < G9 ∧ Row X18 G10 33 (hc (hhf b (fun _ => false) (k + 1))) ∧ G9 < G10) := by
     obtain ⟨h0, h1, h2, h3, h4, h5, h6, h7, h8, h9, h10, h11, h12, h13⟩ := HI.out
     rw [hX18]
     exact ⟨h0.drew, h1.drew, h2.drew, h3.drew, h4.drew, h5.drew, h6, h7, h8.drew, h9.drew, h10, h11, h12.drew, h13⟩
    clear hX18 HI
    refine hdv0 0 28 (.int .i64 (k : Int)) (by rfl) ⟨HJ.out.2.2.2.2.1, HJ.out.2.2.2.2.2.2.2.2.1⟩ ?_
    refine hdv 1 29 (.pointer (some ⟨G6, k, none⟩)) (by rfl) (fun w hS => at_dD hlt rfl (by kernel_rfl) (by kernel_rfl)) ⟨HJ.out.2.2.2.2.1, HJ.out.2.2.2.2.2.2.2.2.1⟩ ?_
    refine hdv 2 30 (.int .i32 x) (by rfl) (fun w hS => load_d rfl ((hS.1.cell k).trans HG1.out) (by kernel_rfl)) ⟨HJ.out.2.2.2.2.1, HJ.out.2.2.2.2.2.2.2.2.1⟩ ?_
    refine hdv0 3 31 (.int .i64 (k : Int)) (by rfl) ⟨HJ.out.2.2.2.2.1, HJ.out.2.2.2.2.2.2.2.2.1⟩ ?_
    refine hdv 4 32 (.pointer (some ⟨G8, k, none⟩)) (by rfl) (fun w hS => at_dD hlt rfl (by kernel_rfl) (by kernel_rfl)) ⟨HJ.out.2.2.2.2.1, HJ.out.2.2.2.2.2.2.2.2.1⟩ ?_
    refine hdv 5 33 (.int .i32 y) (by rfl) (fun w hS => load_d rfl ((hS.2.cell k).trans HG2.out) (by kernel_rfl)) ⟨HJ.out.2.2.2.2.1, HJ.out.2.2.2.2.2.2.2.2.1⟩ ?_
    refine hdv 6 34 (.bool false) (by rfl) (fun w hS => neq_d false HNE.out rfl (by kernel_rfl) (by kernel_rfl)) ⟨HJ.out.2.2.2.2.1, HJ.out.2.2.2.2.2.2.2.2.1⟩ ?_
    refine wpAnyH_done (by kernel_rfl) ?_ _
    go_wp2
    go_roundw
    case rel => exact ⟨k + 1, by omega, by go_num, by rw [HMN.out, HME.out], HJ⟩
    case measure => simp [intOf]; omega
   ·have HNE : Shh ((x != y) = true) := ⟨by rw [← HBK]⟩
    have HAD : Shh ((m1 : Int) = (mk : Int) + 1 ∧ -9223372036854775808 ≤ (m1 : Int) ∧ (m1 : Int) ≤ 9223372036854775807) := ⟨by have h := HMK; rw [if_pos rfl] at h; omega⟩
    clear HBK HMK HLK HSK
    go_wp2
    refine wp_region_held_drew (S := fun w' => Row w' G6 23 (dc dh) ∧ Row w' G8 23 (dc eh)) (by kernel_rfl) ⟨HI.out.2.2.2.2.1.drew, HI.out.2.2.2.2.2.2.2.2.1.drew⟩ (fun hS => ?_)
    clear hS
    obtain ⟨X18, hX18⟩ : ∃ V, V = World.drew wr := ⟨_, rfl⟩
    rw [← hX18]
    have HJ : Shh (Row X18 N 23 (dc z) ∧ Row X18 (N + 1) 23 (dc r) ∧ Row X18 (N + 2) 33 (hc fun _ => false) ∧ Below N w X18 ∧ Row X18 G6 23 (dc dh) ∧ Row X18 G7 23 (dc dl) ∧ N + 2 < G6 ∧ G6 < G7 ∧ Row X18 G8 23 (dc eh) ∧ Row X18 G9 23 (dc el) ∧ G7 < G8 ∧ G8 < G9 ∧ Row X18 G10 33 (hc (hhf b (fun _ => false) k)) ∧ G9 < G10) := by
     obtain ⟨h0, h1, h2, h3, h4, h5, h6, h7, h8, h9, h10, h11, h12, h13⟩ := HI.out
     rw [hX18]
     exact ⟨h0.drew, h1.drew, h2.drew, h3.drew, h4.drew, h5.drew, h6, h7, h8.drew, h9.drew, h10, h11, h12.drew, h13⟩
    clear hX18 HI
    refine hdv0 0 28 (.int .i64 (k : Int)) (by rfl) ⟨HJ.out.2.2.2.2.1, HJ.out.2.2.2.2.2.2.2.2.1⟩ ?_
    refine hdv 1 29 (.pointer (some ⟨G6, k, none⟩)) (by rfl) (fun w hS => at_dD hlt rfl (by kernel_rfl) (by kernel_rfl)) ⟨HJ.out.2.2.2.2.1, HJ.out.2.2.2.2.2.2.2.2.1⟩ ?_
    refine hdv 2 30 (.int .i32 x) (by rfl) (fun w hS => load_d rfl ((hS.1.cell k).trans HG1.out) (by kernel_rfl)) ⟨HJ.out.2.2.2.2.1, HJ.out.2.2.2.2.2.2.2.2.1⟩ ?_
    refine hdv0 3 31 (.int .i64 (k : Int)) (by rfl) ⟨HJ.out.2.2.2.2.1, HJ.out.2.2.2.2.2.2.2.2.1⟩ ?_
    refine hdv 4 32 (.pointer (some ⟨G8, k, none⟩)) (by rfl) (fun w hS => at_dD hlt rfl (by kernel_rfl) (by kernel_rfl)) ⟨HJ.out.2.2.2.2.1, HJ.out.2.2.2.2.2.2.2.2.1⟩ ?_
    refine hdv 5 33 (.int .i32 y) (by rfl) (fun w hS => load_d rfl ((hS.2.cell k).trans HG2.out) (by kernel_rfl)) ⟨HJ.out.2.2.2.2.1, HJ.out.2.2.2.2.2.2.2.2.1⟩ ?_
    refine hdv 6 34 (.bool true) (by rfl) (fun w hS => neq_d true HNE.out rfl (by kernel_rfl) (by kernel_rfl)) ⟨HJ.out.2.2.2.2.1, HJ.out.2.2.2.2.2.2.2.2.1⟩ ?_
    refine wpAnyH_done (by kernel_rfl) ?_ _
    go_wp2_with (first | refine wl_at 36 rfl (.pointer (some ⟨G10, k, none⟩)) rfl (at_dH hlt rfl rfl rfl) ?_ | refine wl_storeH rfl hlt rfl rfl rfl HJ.out.2.2.2.2.2.2.2.2.2.2.2.2.1 ?_)
    intro w19 r20 bt21 zbt21
    rw [HN1.out] at r20
    have HK : Shh (Row w19 N 23 (dc z) ∧ Row w19 (N + 1) 23 (dc r) ∧ Row w19 (N + 2) 33 (hc fun _ => false) ∧ Below N w w19 ∧ Row w19 G6 23 (dc dh) ∧ Row w19 G7 23 (dc dl) ∧ N + 2 < G6 ∧ G6 < G7 ∧ Row w19 G8 23 (dc eh) ∧ Row w19 G9 23 (dc el) ∧ G7 < G8 ∧ G8 < G9 ∧ Row w19 G10 33 (hc (hhf b (fun _ => false) (k + 1))) ∧ G9 < G10) := by
     obtain ⟨h0, h1, h2, h3, h4, h5, h6, h7, h8, h9, h10, h11, h12, h13⟩ := HJ.out
     have := h0.lt
     have := h1.lt
     have := h2.lt
     have := h4.lt
     have := h5.lt
     have := h8.lt
     have := h9.lt
     have := h12.lt
     have hb := bt21.under (Nat.le_of_lt h12.lt) (Nat.le_refl _)
     have := hb.size
     exact ⟨bt21.row h0 h0.lt (by omega), bt21.row h1 h1.lt (by omega), bt21.row h2 h2.lt (by omega), h3.trans (hb.mono (by omega)), bt21.row h4 h4.lt (by omega), bt21.row h5 h5.lt (by omega), h6, h7, bt21.row h8 h8.lt (by omega), bt21.row h9 h9.lt (by omega), h10, h11, r20, h13⟩
    clear bt21 HJ r20 zbt21
    go_wp2_with (refine wl_at 38 rfl (.int .i64 (m1 : Int)) rfl (add_n HAD.out rfl rfl rfl) ?_)
    go_roundw
    case rel => exact ⟨k + 1, by omega, by go_num, by rw [HMN.out], HK⟩
    case measure => simp [intOf]; omega
  ·have hlt2 : ¬ (k : Int) < 256 := by omega
   have e : k = 256 := by omega
   have HZ : Shh ((m k : Int) = (m 256 : Int)) := ⟨by rw [e]⟩
   clear e
   have HJ : Shh (Row wr N 23 (dc z) ∧ Row wr (N + 1) 23 (dc r) ∧ Row wr (N + 2) 33 (hc fun _ => false) ∧ Below N w wr ∧ Row wr G6 23 (dc dh) ∧ Row wr G7 23 (dc dl) ∧ N + 2 < G6 ∧ G6 < G7 ∧ Row wr G8 23 (dc eh) ∧ Row wr G9 23 (dc el) ∧ G7 < G8 ∧ G8 < G9 ∧ Row wr G10 33 (hc b) ∧ G9 < G10) := by
    have h := HI.out
    rw [show k = 256 by omega] at h
    simp only [hhf_all] at h
    exact ⟨h⟩
   clear HI
   generalize (m k : Int) = mk at *
   go_wp2_with (first | refine wpList_load_any rfl 33 (.tmp 10) rfl G10 rfl 33 (hc b) (.array 256 4) HJ.out.2.2.2.2.2.2.2.2.2.2.2.2.1 Try.underlying33 rfl (info_dH.trans (size_hc _)) ?_ | refine wpList_store_any rfl 33 (.tmp 4) (.tmp 40) rfl (N + 2) rfl (hc b) rfl 33 _ HJ.out.2.2.1 (info_dH.trans (size_hc _)) (same_hc _ _) (hc_one _) ?_)
   intro w18 r19 bt20 zbt20
   have HK : Shh (Row w18 N 23 (dc z) ∧ Row w18 (N + 1) 23 (dc r) ∧ Row w18 (N + 2) 33 (hc b) ∧ Below N w w18 ∧ Row w18 G6 23 (dc dh) ∧ Row w18 G7 23 (dc dl) ∧ N + 2 < G6 ∧ G6 < G7 ∧ Row w18 G8 23 (dc eh) ∧ Row w18 G9 23 (dc el) ∧ G7 < G8 ∧ G8 < G9 ∧ Row w18 G10 33 (hc b) ∧ G9 < G10) := by
    obtain ⟨h0, h1, h2, h3, h4, h5, h6, h7, h8, h9, h10, h11, h12, h13⟩ := HJ.out
    have := h0.lt
    have := h1.lt
    have := h2.lt
    have := h4.lt
    have := h5.lt
    have := h8.lt
    have := h9.lt
    have := h12.lt
    have hb := bt20.under (Nat.le_of_lt h2.lt) (Nat.le_refl _)
    have := hb.size
    exact ⟨bt20.row h0 h0.lt (by omega), bt20.row h1 h1.lt (by omega), r19, h3.trans (hb.mono (by omega)), bt20.row h4 h4.lt (by omega), bt20.row h5 h5.lt (by omega), h6, h7, bt20.row h8 h8.lt (by omega), bt20.row h9 h9.lt (by omega), h10, h11, bt20.row h12 h12.lt (by omega), h13⟩
   clear bt20 HJ r19 zbt20
   go_wp2
   exact ret_row_slotD Try.results36 rfl rfl rfl HK.out.2.2.1 Try.underlying33 rfl (info_dH.trans (size_hc _)) ⟨by rw [HZ.out]; rfl, HK.out.2.2.2.1⟩
set_option maxHeartbeats 4000000 in
theorem UseHint_any (h : Nat → Bool) (r : Nat → Int) (hr : ∀ i, i < 256 → i32 (r i)) (w : World) : Calls Try.prog 37 #[.agg (hc h).toArray, polyD r] w (DPolyIs w (useD h r)) := by
 unfold DPolyIs polyD
 have HD1 : Shh (∀ W, Calls Try.prog 33 #[.agg (dc r).toArray] W (TwoIs W (decH r) (decL r))) := ⟨fun W => Decompose_any r hr W⟩
 have HU : Shh (∀ k, (h k = false → useD h r k = decH r k) ∧ (h k = true → useD h r k = nbD (decH r k) (decL r k))) := ⟨fun k => ⟨fun e => by unfold useD; rw [e]; rfl, fun e => by unfold useD; rw [e]; rfl⟩⟩
 have HL := Shh.mk (decH_lt r)
 clear hr
 generalize useD h r = u at *
 generalize decH r = dh at *
 generalize decL r = dl at *
 generalize hN : w.heap.size = N at *
 have FA : Shh (Row (((w.alloc (.cells (hc h).toArray 33)).alloc (.cells (dc r).toArray 23)).alloc (.cells (dc fun _ => 0).toArray 23)) N 33 (hc h) ∧ Row (((w.alloc (.cells (hc h).toArray 33)).alloc (.cells (dc r).toArray 23)).alloc (.cells (dc fun _ => 0).toArray 23)) (N + 1) 23 (dc r) ∧ Row (((w.alloc (.cells (hc h).toArray 33)).alloc (.cells (dc r).toArray 23)).alloc (.cells (dc fun _ => 0).toArray 23)) (N + 2) 23 (dc fun _ => 0) ∧ Below N w (((w.alloc (.cells (hc h).toArray 33)).alloc (.cells (dc r).toArray 23)).alloc (.cells (dc fun _ => 0).toArray 23))) := by
  refine ⟨(((Row.new_ hN.symm rfl).alloc _).alloc _), ((Row.new_ (by rw [asz, hN]) rfl).alloc _), (Row.new_ (by rw [asz, asz, hN]) rfl), ?_⟩
  rw [← hN]
  exact Below.chain (Below.chain (belA _ _) (belA _ _)) (belA _ _)
 go_enter Try.func37, Try.ntmps37
 go_wp2_with (first | refine wl_allocD rfl rfl ?_ | refine wpList_load_any rfl 23 (.tmp 3) rfl (N + 1) rfl 23 (dc r) (.array 256 21) FA.out.2.1 Try.underlying23 rfl (info_dD.trans (size_dc _)) ?_ | (go_at_call 33; refine (HD1.out _).mono ?_))
 rintro e w1 ⟨rfl, b2⟩
 have FB : Shh (Row w1 N 33 (hc h) ∧ Row w1 (N + 1) 23 (dc r) ∧ Row w1 (N + 2) 23 (dc fun _ => 0) ∧ Below N w w1) := by
  obtain ⟨h0, h1, h2, h3⟩ := FA.out
  have := h0.lt
  have := h1.lt
  have := h2.lt
  have := b2.size
  exact ⟨h0.go b2, h1.go b2, h2.go b2, h3.trans (b2.mono (by omega))⟩
 clear b2 FA HD1
 go_wp2_with (first | refine wl_new2 5 6 (dh) (dl) rfl rfl rfl rfl rfl rfl rfl rfl rfl rfl rfl rfl rfl rfl rfl rfl ?_)
 intro G5 G6 w4 hG5 hG6 r5 q6 b3
 try simp only [Act.put, arr9, hd9, tl9]
 have FC : Shh (Row w4 N 33 (hc h) ∧ Row w4 (N + 1) 23 (dc r) ∧ Row w4 (N + 2) 23 (dc fun _ => 0) ∧ Below N w w4 ∧ Row w4 G5 23 (dc dh) ∧ Row w4 G6 23 (dc dl) ∧ N + 2 < G5 ∧ G5 < G6) := by
  obtain ⟨h0, h1, h2, h3⟩ := FB.out
  have := h0.lt
  have := h1.lt
  have := h2.lt
  have := b3.size
  have := hG5.out
  have := hG6.out
  exact ⟨h0.go b3, h1.go b3, h2.go b3, h3.trans (b3.mono (by omega)), r5, q6, (by omega), (by omega)⟩
 clear b3 FB r5 q6 hG5 hG6
 go_wp2_with (refine wpList_load_any rfl 33 (.tmp 2) rfl N rfl 33 (hc h) (.array 256 4) FC.out.1 Try.underlying33 rfl (info_dH.trans (size_hc _)) ?_)
 go_loopw [15] (fun i wr => ∃ k : Nat, k ≤ 256 ∧ i = .int .i64 (k : Int) ∧ Shh (Row wr N 33 (hc h) ∧ Row wr (N + 1) 23 (dc r) ∧ Row wr (N + 2) 23 (dc fun _ => 0) ∧ Below N w wr ∧ Row wr G5 23 (dc (dhf u dh k)) ∧ Row wr G6 23 (dc dl) ∧ N + 2 < G5 ∧ G5 < G6)) (fun i _ => 256 - (intOf i).toNat)
 case atStart => exact ⟨0, Nat.zero_le _, rfl, ⟨by simp only [dhf_zero]; exact FC.out⟩⟩
 case round =>
  clear FC
  obtain ⟨k, hk, rfl, HI⟩ := hrel
  by_cases hlt : k < 256
  ·have HN1 := Shh.mk (dhf_next u dh k)
   have HSK := Shh.mk (dhf_skip (r := u) (p := dh) (k := k))
   have HG0 := Shh.mk (hc_get h hlt)
   have HG1 := Shh.mk (dhf_at u dh hlt)
   have HG2 := Shh.mk (dc_get dl hlt)
   obtain ⟨hF, hT⟩ := HU.out k
   have HLK := HL.out k
   generalize u k = uk at *
   generalize dh k = x at *
   generalize dl k = y at *
   generalize h k = bk at *
   have hlt2 : (k : Int) < 256 := by omega
   cases bk
   ·have HS2 := Shh.mk (HSK.out (hF rfl))
    clear hF hT HSK HLK
    go_wp2_with (refine wl_at 18 rfl (.bool false) rfl (idx_dH hlt HG0.out rfl rfl rfl) ?_)
    have HJ : Shh (Row wr N 33 (hc h) ∧ Row wr (N + 1) 23 (dc r) ∧ Row wr (N + 2) 23 (dc fun _ => 0) ∧ Below N w wr ∧ Row wr G5 23 (dc (dhf u dh (k + 1))) ∧ Row wr G6 23 (dc dl) ∧ N + 2 < G5 ∧ G5 < G6) := by
     have h := HI.out
     rw [HS2.out] at h
     exact ⟨h⟩
    clear HI
    go_roundw
    case rel => exact ⟨k + 1, by omega, by go_num, HJ⟩
    case measure => simp [intOf]; omega
   ·have HC : Shh (∀ W, Calls Try.prog 56 #[.int .i32 x, .int .i32 y] W (I32Is W uk)) := ⟨fun W => by rw [hT rfl]; exact neighbour_any x y HLK W⟩
    clear hF hT HSK HLK
    go_wp2_with (refine wl_at 18 rfl (.bool true) rfl (idx_dH hlt HG0.out rfl rfl rfl) ?_)
    go_wp2
    refine wp_region_held_drew (S := fun w' => True) (by kernel_rfl) trivial (fun hS => ?_)
    clear hS
    obtain ⟨X7, hX7⟩ : ∃ V, V = World.drew wr := ⟨_, rfl⟩
    rw [← hX7]
    have HJ : Shh (Row X7 N 33 (hc h) ∧ Row X7 (N + 1) 23 (dc r) ∧ Row X7 (N + 2) 23 (dc fun _ => 0) ∧ Below N w X7 ∧ Row X7 G5 23 (dc (dhf u dh k)) ∧ Row X7 G6 23 (dc dl) ∧ N + 2 < G5 ∧ G5 < G6) := by
     obtain ⟨h0, h1, h2, h3, h4, h5, h6, h7⟩ := HI.out
     rw [hX7]
     exact ⟨h0.drew, h1.drew, h2.drew, h3.drew, h4.drew, h5.drew, h6, h7⟩
    clear hX7 HI
    refine hdv0 0 20 (.int .i64 (k : Int)) (by rfl) trivial ?_
    refine hdv0 1 21 (.int .i64 (k : Int)) (by rfl) trivial ?_
    refine hdv 2 22 (.pointer (some ⟨G5, k, none⟩)) (by rfl) (fun w hS => at_dD hlt rfl (by kernel_rfl) (by kernel_rfl)) trivial ?_
    refine hdv0 4 24 (.int .i64 (k : Int)) (by rfl) trivial ?_
    refine hdv 5 25 (.pointer (some ⟨G6, k, none⟩)) (by rfl) (fun w hS => at_dD hlt rfl (by kernel_rfl) (by kernel_rfl)) trivial ?_
    refine held_two 3 6 (by kernel_rfl) ?_ ?_
    ·refine step_value 3 _ _ (some 23) (.int .i32 x) X7 (by rfl) (by kernel_rfl) (load_d rfl ((HJ.out.2.2.2.2.1.cell k).trans HG1.out) (by kernel_rfl)) trivial ?_
     simp only [Act.put, arr9, hd9, tl9]
     refine held_one 6 (by kernel_rfl) ?_
     refine step_value 6 _ _ (some 26) (.int .i32 y) X7 (by rfl) (by kernel_rfl) (load_d rfl ((HJ.out.2.2.2.2.2.1.cell k).trans HG2.out) (by kernel_rfl)) trivial ?_
     simp only [Act.put, arr9, hd9, tl9]
     refine held_one 7 (by kernel_rfl) ?_
     refine step_call 7 _ _ (some 27) 56 #[.int .i32 x, .int .i32 y] (by rfl) (by kernel_rfl) (by first | kernel_rfl | go_simp) ?_
     refine (HC.out X7).mono ?_
     rintro e w8 ⟨rfl, hq⟩
     obtain rfl : X7 = w8 := hq
     refine ⟨_, rfl, trivial, ?_⟩
     simp only [Act.put, arr9, hd9, tl9]
     refine hdv 8 28 (.pointer (some ⟨G5, k, none⟩)) (by rfl) (fun w hS => at_dD hlt rfl (by kernel_rfl) (by kernel_rfl)) trivial ?_
     refine held_one 9 (by kernel_rfl) ?_
     refine step_storeD 9 (v := uk) (by rfl) (by kernel_rfl) hlt HJ.out.2.2.2.2.1 (by kernel_rfl) (by kernel_rfl) ?_
     intro w10 r11 bt9 zbt9
     have HK : Shh (Row w10 N 33 (hc h) ∧ Row w10 (N + 1) 23 (dc r) ∧ Row w10 (N + 2) 23 (dc fun _ => 0) ∧ Below N w w10 ∧ Row w10 G5 23 (dc (dhf u dh (k + 1))) ∧ Row w10 G6 23 (dc dl) ∧ N + 2 < G5 ∧ G5 < G6) := by
      obtain ⟨h0, h1, h2, h3, h4, h5, h6, h7⟩ := HJ.out
      have := h0.lt
      have := h1.lt
      have := h2.lt
      have := h4.lt
      have := h5.lt
      have hb := bt9.under (Nat.le_of_lt h4.lt) (Nat.le_refl _)
      have := hb.size
      rw [HN1.out] at r11
      exact ⟨bt9.row h0 h0.lt (by omega), bt9.row h1 h1.lt (by omega), bt9.row h2 h2.lt (by omega), h3.trans (hb.mono (by omega)), r11, bt9.row h5 h5.lt (by omega), h6, h7⟩
     clear bt9 HJ r11 zbt9
     refine ⟨trivial, ?_⟩
     refine wpAnyH_done (by kernel_rfl) ?_ _
     go_wp2
     go_roundw
     case rel => exact ⟨k + 1, by omega, by go_num, HK⟩
     case measure => simp [intOf]; omega
    ·refine step_value 6 _ _ (some 26) (.int .i32 y) X7 (by rfl) (by kernel_rfl) (load_d rfl ((HJ.out.2.2.2.2.2.1.cell k).trans HG2.out) (by kernel_rfl)) trivial ?_
     simp only [Act.put, arr9, hd9, tl9]
     refine held_one 3 (by kernel_rfl) ?_
     refine step_value 3 _ _ (some 23) (.int .i32 x) X7 (by rfl) (by kernel_rfl) (load_d rfl ((HJ.out.2.2.2.2.1.cell k).trans HG1.out) (by kernel_rfl)) trivial ?_
     simp only [Act.put, arr9, hd9, tl9]
     refine held_one 7 (by kernel_rfl) ?_
     refine step_call 7 _ _ (some 27) 56 #[.int .i32 x, .int .i32 y] (by rfl) (by kernel_rfl) (by first | kernel_rfl | go_simp) ?_
     refine (HC.out X7).mono ?_
     rintro e w8 ⟨rfl, hq⟩
     obtain rfl : X7 = w8 := hq
     refine ⟨_, rfl, trivial, ?_⟩
     simp only [Act.put, arr9, hd9, tl9]
     refine hdv 8 28 (.pointer (some ⟨G5, k, none⟩)) (by rfl) (fun w hS => at_dD hlt rfl (by kernel_rfl) (by kernel_rfl)) trivial ?_
     refine held_one 9 (by kernel_rfl) ?_
     refine step_storeD 9 (v := uk) (by rfl) (by kernel_rfl) hlt HJ.out.2.2.2.2.1 (by kernel_rfl) (by kernel_rfl) ?_
     intro w10 r11 bt9 zbt9
     have HK : Shh (Row w10 N 33 (hc h) ∧ Row w10 (N + 1) 23 (dc r) ∧ Row w10 (N + 2) 23 (dc fun _ => 0) ∧ Below N w w10 ∧ Row w10 G5 23 (dc (dhf u dh (k + 1))) ∧ Row w10 G6 23 (dc dl) ∧ N + 2 < G5 ∧ G5 < G6) := by
      obtain ⟨h0, h1, h2, h3, h4, h5, h6, h7⟩ := HJ.out
      have := h0.lt
      have := h1.lt
      have := h2.lt
      have := h4.lt
      have := h5.lt
      have hb := bt9.under (Nat.le_of_lt h4.lt) (Nat.le_refl _)
      have := hb.size
      rw [HN1.out] at r11
      exact ⟨bt9.row h0 h0.lt (by omega), bt9.row h1 h1.lt (by omega), bt9.row h2 h2.lt (by omega), h3.trans (hb.mono (by omega)), r11, bt9.row h5 h5.lt (by omega), h6, h7⟩
     clear bt9 HJ r11 zbt9
     refine ⟨trivial, ?_⟩
     refine wpAnyH_done (by kernel_rfl) ?_ _
     go_wp2
     go_roundw
     case rel => exact ⟨k + 1, by omega, by go_num, HK⟩
     case measure => simp [intOf]; omega
  ·have hlt2 : ¬ (k : Int) < 256 := by omega
   have HJ : Shh (Row wr N 33 (hc h) ∧ Row wr (N + 1) 23 (dc r) ∧ Row wr (N + 2) 23 (dc fun _ => 0) ∧ Below N w wr ∧ Row wr G5 23 (dc u) ∧ Row wr G6 23 (dc dl) ∧ N + 2 < G5 ∧ G5 < G6) := by
    have h := HI.out
    rw [show k = 256 by omega] at h
    simp only [dhf_all] at h
    exact ⟨h⟩
   clear HI
   go_wp2_with (first | refine wpList_load_any rfl 23 (.tmp 5) rfl G5 rfl 23 (dc u) (.array 256 21) HJ.out.2.2.2.2.1 Try.underlying23 rfl (info_dD.trans (size_dc _)) ?_ | refine wpList_store_any rfl 23 (.tmp 4) (.tmp 30) rfl (N + 2) rfl (dc u) rfl 23 _ HJ.out.2.2.1 (info_dD.trans (size_dc _)) (same_dc _ _) (dc_one _) ?_)
   intro w7 r8 bt9 zbt9
   have HK : Shh (Row w7 N 33 (hc h) ∧ Row w7 (N + 1) 23 (dc r) ∧ Row w7 (N + 2) 23 (dc u) ∧ Below N w w7 ∧ Row w7 G5 23 (dc u) ∧ Row w7 G6 23 (dc dl) ∧ N + 2 < G5 ∧ G5 < G6) := by
    obtain ⟨h0, h1, h2, h3, h4, h5, h6, h7⟩ := HJ.out
    have := h0.lt
    have := h1.lt
    have := h2.lt
    have := h4.lt
    have := h5.lt
    have hb := bt9.under (Nat.le_of_lt h2.lt) (Nat.le_refl _)
    have := hb.size
    exact ⟨bt9.row h0 h0.lt (by omega), bt9.row h1 h1.lt (by omega), r8, h3.trans (hb.mono (by omega)), bt9.row h4 h4.lt (by omega), bt9.row h5 h5.lt (by omega), h6, h7⟩
   clear bt9 HJ r8 zbt9
   go_wp2
   exact ret_row Try.results37 rfl rfl HK.out.2.2.1 Try.underlying23 rfl (info_dD.trans (size_dc _)) ⟨rfl, HK.out.2.2.2.1⟩
set_option maxHeartbeats 4000000 in
theorem refUseHint_any (h : Nat → Bool) (r : Nat → Int) (hr : ∀ i, i < 256 → i32 (r i)) (w : World) : Calls Try.prog 38 #[.agg (hc h).toArray, polyD r] w (DPolyIs w (useD h r)) := by
 unfold DPolyIs polyD
 have HD1 : Shh (∀ W, Calls Try.prog 34 #[.agg (dc r).toArray] W (TwoIs W (decH r) (decL r))) := ⟨fun W => refDecompose_any r hr W⟩
 have HU : Shh (∀ k, (h k = false → useD h r k = decH r k) ∧ (h k = true → useD h r k = nbD (decH r k) (decL r k))) := ⟨fun k => ⟨fun e => by unfold useD; rw [e]; rfl, fun e => by unfold useD; rw [e]; rfl⟩⟩
 have HL := Shh.mk (decH_lt r)
 clear hr
 generalize useD h r = u at *
 generalize decH r = dh at *
 generalize decL r = dl at *
 generalize hN : w.heap.size = N at *
 have FA : Shh (Row (((w.alloc (.cells (hc h).toArray 33)).alloc (.cells (dc r).toArray 23)).alloc (.cells (dc fun _ => 0).toArray 23)) N 33 (hc h) ∧ Row (((w.alloc (.cells (hc h).toArray 33)).alloc (.cells (dc r).toArray 23)).alloc (.cells (dc fun _ => 0).toArray 23)) (N + 1) 23 (dc r) ∧ Row (((w.alloc (.cells (hc h).toArray 33)).alloc (.cells (dc r).toArray 23)).alloc (.cells (dc fun _ => 0).toArray 23)) (N + 2) 23 (dc fun _ => 0) ∧ Below N w (((w.alloc (.cells (hc h).toArray 33)).alloc (.cells (dc r).toArray 23)).alloc (.cells (dc fun _ => 0).toArray 23))) := by
  refine ⟨(((Row.new_ hN.symm rfl).alloc _).alloc _), ((Row.new_ (by rw [asz, hN]) rfl).alloc _), (Row.new_ (by rw [asz, asz, hN]) rfl), ?_⟩
  rw [← hN]
  exact Below.chain (Below.chain (belA _ _) (belA _ _)) (belA _ _)
 go_enter Try.func38, Try.ntmps38
 go_wp2_with (first | refine wl_allocD rfl rfl ?_ | refine wpList_load_any rfl 23 (.tmp 3) rfl (N + 1) rfl 23 (dc r) (.array 256 21) FA.out.2.1 Try.underlying23 rfl (info_dD.trans (size_dc _)) ?_ | (go_at_call 34; refine (HD1.out _).mono ?_))
 rintro e w1 ⟨rfl, b2⟩
 have FB : Shh (Row w1 N 33 (hc h) ∧ Row w1 (N + 1) 23 (dc r) ∧ Row w1 (N + 2) 23 (dc fun _ => 0) ∧ Below N w w1) := by
  obtain ⟨h0, h1, h2, h3⟩ := FA.out
  have := h0.lt
  have := h1.lt
  have := h2.lt
  have := b2.size
  exact ⟨h0.go b2, h1.go b2, h2.go b2, h3.trans (b2.mono (by omega))⟩
 clear b2 FA HD1
 go_wp2_with (first | refine wl_new2 5 6 (dh) (dl) rfl rfl rfl rfl rfl rfl rfl rfl rfl rfl rfl rfl rfl rfl rfl rfl ?_)
 intro G5 G6 w4 hG5 hG6 r5 q6 b3
 try simp only [Act.put, arr9, hd9, tl9]
 have FC : Shh (Row w4 N 33 (hc h) ∧ Row w4 (N + 1) 23 (dc r) ∧ Row w4 (N + 2) 23 (dc fun _ => 0) ∧ Below N w w4 ∧ Row w4 G5 23 (dc dh) ∧ Row w4 G6 23 (dc dl) ∧ N + 2 < G5 ∧ G5 < G6) := by
  obtain ⟨h0, h1, h2, h3⟩ := FB.out
  have := h0.lt
  have := h1.lt
  have := h2.lt
  have := b3.size
  have := hG5.out
  have := hG6.out
  exact ⟨h0.go b3, h1.go b3, h2.go b3, h3.trans (b3.mono (by omega)), r5, q6, (by omega), (by omega)⟩
 clear b3 FB r5 q6 hG5 hG6
 go_wp2
 go_loopw [13] (fun i wr => ∃ k : Nat, k ≤ 256 ∧ i = .int .i64 (k : Int) ∧ Shh (Row wr N 33 (hc h) ∧ Row wr (N + 1) 23 (dc r) ∧ Row wr (N + 2) 23 (dc fun _ => 0) ∧ Below N w wr ∧ Row wr G5 23 (dc (dhf u dh k)) ∧ Row wr G6 23 (dc dl) ∧ N + 2 < G5 ∧ G5 < G6)) (fun i _ => 256 - (intOf i).toNat)
 case atStart => exact ⟨0, Nat.zero_le _, rfl, ⟨by simp only [dhf_zero]; exact FC.out⟩⟩
 case round =>
  clear FC
  obtain ⟨k, hk, rfl, HI⟩ := hrel
  by_cases hlt : k < 256
  ·have HN1 := Shh.mk (dhf_next u dh k)
   have HSK := Shh.mk (dhf_skip (r := u) (p := dh) (k := k))
   have HG0 := Shh.mk (hc_get h hlt)
   have HG1 := Shh.mk (dhf_at u dh hlt)
   have HG2 := Shh.mk (dc_get dl hlt)
   obtain ⟨hF, hT⟩ := HU.out k
   have HLK := HL.out k
   generalize u k = uk at *
   generalize dh k = x at *
   generalize dl k = y at *
   generalize h k = bk at *
   have hlt2 : (k : Int) < 256 := by omega
   cases bk
   ·have HS2 := Shh.mk (HSK.out (hF rfl))
    clear hF hT HSK HLK
    have HLD := Shh.mk ((HI.out.1.cell k).trans HG0.out)
    go_wp2_with (first | refine wl_at 17 rfl (.pointer (some ⟨N, k, none⟩)) rfl (at_dH hlt rfl rfl rfl) ?_ | refine wl_at 18 rfl (.bool false) rfl (load_b rfl HLD.out rfl) ?_ | refine wl_at 33 rfl (.pointer (some ⟨N, k, none⟩)) rfl (at_dH hlt rfl rfl rfl) ?_ | refine wl_at 34 rfl (.bool false) rfl (load_b rfl HLD.out rfl) ?_)
    have HJ : Shh (Row wr N 33 (hc h) ∧ Row wr (N + 1) 23 (dc r) ∧ Row wr (N + 2) 23 (dc fun _ => 0) ∧ Below N w wr ∧ Row wr G5 23 (dc (dhf u dh (k + 1))) ∧ Row wr G6 23 (dc dl) ∧ N + 2 < G5 ∧ G5 < G6) := by
     have h := HI.out
     rw [HS2.out] at h
     exact ⟨h⟩
    clear HI
    clear HLD
    go_roundw
    case rel => exact ⟨k + 1, by omega, by go_num, HJ⟩
    case measure => simp [intOf]; omega
   ·by_cases hy : 0 < y
    ·obtain ⟨v, HV⟩ : ∃ v, Shh (v = x + 1 ∧ -2147483648 ≤ v ∧ v ≤ 2147483647) := ⟨_, ⟨rfl, by omega, by omega⟩⟩
     have HQ : Shh (uk = v.tmod 16 ∧ -2147483648 ≤ uk ∧ uk ≤ 2147483647) := by
      have h1 := HV.out.1
      have h2 := hT rfl
      have h3 := nbD_lt x y
      rw [← h2] at h3
      refine ⟨?_, by omega, by omega⟩
      rw [h2, Int.tmod_eq_emod_of_nonneg (by omega), h1]
      unfold nbD
      rw [if_pos hy]
     have HGT : Shh (decide (0 < y) = true) := ⟨by simpa using hy⟩
     clear hF hT HSK HLK hy
     have HL0 := Shh.mk ((HI.out.1.cell k).trans HG0.out)
     have HL5 := Shh.mk ((HI.out.2.2.2.2.1.cell k).trans HG1.out)
     have HL6 := Shh.mk ((HI.out.2.2.2.2.2.1.cell k).trans HG2.out)
     go_wp2_with (first | refine wl_at 17 rfl (.pointer (some ⟨N, k, none⟩)) rfl (at_dH hlt rfl rfl rfl) ?_ | refine wl_at 18 rfl (.bool true) rfl (load_b rfl HL0.out rfl) ?_ | refine wl_atW 21 rfl (.pointer (some ⟨G6, k, none⟩)) (by kernel_rfl) (at_dD hlt rfl rfl rfl) ?_ | refine wl_atW 22 rfl (.int .i32 y) (by kernel_rfl) (load_d rfl HL6.out rfl) ?_ | refine wl_atW 23 rfl (.bool true) (by kernel_rfl) (gtr_d true HGT.out rfl rfl rfl) ?_ | refine wl_at 27 rfl (.pointer (some ⟨G5, k, none⟩)) rfl (at_dD hlt rfl rfl rfl) ?_ | refine wl_at 28 rfl (.int .i32 x) rfl (load_d rfl HL5.out rfl) ?_ | refine wl_at 29 rfl (.int .i32 v) rfl (add_d HV.out rfl rfl rfl) ?_ | refine wl_at 30 rfl (.int .i32 uk) rfl (rem_d HQ.out (by decide) rfl rfl rfl) ?_ | refine wl_at 31 rfl (.pointer (some ⟨G5, k, none⟩)) rfl (at_dD hlt rfl rfl rfl) ?_ | refine wl_storeD rfl hlt rfl rfl rfl HI.out.2.2.2.2.1 ?_)
     intro w7 r8 bt9 zbt9
     rw [HN1.out] at r8
     have HJ : Shh (Row w7 N 33 (hc h) ∧ Row w7 (N + 1) 23 (dc r) ∧ Row w7 (N + 2) 23 (dc fun _ => 0) ∧ Below N w w7 ∧ Row w7 G5 23 (dc (dhf u dh (k + 1))) ∧ Row w7 G6 23 (dc dl) ∧ N + 2 < G5 ∧ G5 < G6) := by
      obtain ⟨h0, h1, h2, h3, h4, h5, h6, h7⟩ := HI.out
      have := h0.lt
      have := h1.lt
      have := h2.lt
      have := h4.lt
      have := h5.lt
      have hb := bt9.under (Nat.le_of_lt h4.lt) (Nat.le_refl _)
      have := hb.size
      exact ⟨bt9.row h0 h0.lt (by omega), bt9.row h1 h1.lt (by omega), bt9.row h2 h2.lt (by omega), h3.trans (hb.mono (by omega)), r8, bt9.row h5 h5.lt (by omega), h6, h7⟩
     clear bt9 HI r8 zbt9 HL0 HL5 HL6
     go_wp2
     go_roundw
     case rel => exact ⟨k + 1, by omega, by go_num, HJ⟩
     case measure => simp [intOf]; omega
    ·obtain ⟨v, HV⟩ : ∃ v, Shh (v = x + 15 ∧ -2147483648 ≤ v ∧ v ≤ 2147483647) := ⟨_, ⟨rfl, by omega, by omega⟩⟩
     have HQ : Shh (uk = v.tmod 16 ∧ -2147483648 ≤ uk ∧ uk ≤ 2147483647) := by
      have h1 := HV.out.1
      have h2 := hT rfl
      have h3 := nbD_lt x y
      rw [← h2] at h3
      refine ⟨?_, by omega, by omega⟩
      rw [h2, Int.tmod_eq_emod_of_nonneg (by omega), h1]
      unfold nbD
      rw [if_neg hy]
     have HGT : Shh (decide (0 < y) = false) := ⟨by simpa using hy⟩
     clear hF hT HSK HLK hy
     have HL0 := Shh.mk ((HI.out.1.cell k).trans HG0.out)
     have HL5 := Shh.mk ((HI.out.2.2.2.2.1.cell k).trans HG1.out)
     have HL6 := Shh.mk ((HI.out.2.2.2.2.2.1.cell k).trans HG2.out)
     go_wp2_with (first | refine wl_at 17 rfl (.pointer (some ⟨N, k, none⟩)) rfl (at_dH hlt rfl rfl rfl) ?_ | refine wl_at 18 rfl (.bool true) rfl (load_b rfl HL0.out rfl) ?_ | refine wl_atW 21 rfl (.pointer (some ⟨G6, k, none⟩)) (by kernel_rfl) (at_dD hlt rfl rfl rfl) ?_ | refine wl_atW 22 rfl (.int .i32 y) (by kernel_rfl) (load_d rfl HL6.out rfl) ?_ | refine wl_atW 23 rfl (.bool false) (by kernel_rfl) (gtr_d false HGT.out rfl rfl rfl) ?_ | refine wl_at 33 rfl (.pointer (some ⟨N, k, none⟩)) rfl (at_dH hlt rfl rfl rfl) ?_ | refine wl_at 34 rfl (.bool true) rfl (load_b rfl HL0.out rfl) ?_ | refine wl_at 37 rfl (.pointer (some ⟨G5, k, none⟩)) rfl (at_dD hlt rfl rfl rfl) ?_ | refine wl_at 38 rfl (.int .i32 x) rfl (load_d rfl HL5.out rfl) ?_ | refine wl_at 39 rfl (.int .i32 v) rfl (add_d HV.out rfl rfl rfl) ?_ | refine wl_at 40 rfl (.int .i32 uk) rfl (rem_d HQ.out (by decide) rfl rfl rfl) ?_ | refine wl_at 41 rfl (.pointer (some ⟨G5, k, none⟩)) rfl (at_dD hlt rfl rfl rfl) ?_ | refine wl_storeD rfl hlt rfl rfl rfl HI.out.2.2.2.2.1 ?_)
     intro w7 r8 bt9 zbt9
     rw [HN1.out] at r8
     have HJ : Shh (Row w7 N 33 (hc h) ∧ Row w7 (N + 1) 23 (dc r) ∧ Row w7 (N + 2) 23 (dc fun _ => 0) ∧ Below N w w7 ∧ Row w7 G5 23 (dc (dhf u dh (k + 1))) ∧ Row w7 G6 23 (dc dl) ∧ N + 2 < G5 ∧ G5 < G6) := by
      obtain ⟨h0, h1, h2, h3, h4, h5, h6, h7⟩ := HI.out
      have := h0.lt
      have := h1.lt
      have := h2.lt
      have := h4.lt
      have := h5.lt
      have hb := bt9.under (Nat.le_of_lt h4.lt) (Nat.le_refl _)
      have := hb.size
      exact ⟨bt9.row h0 h0.lt (by omega), bt9.row h1 h1.lt (by omega), bt9.row h2 h2.lt (by omega), h3.trans (hb.mono (by omega)), r8, bt9.row h5 h5.lt (by omega), h6, h7⟩
     clear bt9 HI r8 zbt9 HL0 HL5 HL6
     go_wp2
     go_roundw
     case rel => exact ⟨k + 1, by omega, by go_num, HJ⟩
     case measure => simp [intOf]; omega
  ·have hlt2 : ¬ (k : Int) < 256 := by omega
   have HJ : Shh (Row wr N 33 (hc h) ∧ Row wr (N + 1) 23 (dc r) ∧ Row wr (N + 2) 23 (dc fun _ => 0) ∧ Below N w wr ∧ Row wr G5 23 (dc u) ∧ Row wr G6 23 (dc dl) ∧ N + 2 < G5 ∧ G5 < G6) := by
    have h := HI.out
    rw [show k = 256 by omega] at h
    simp only [dhf_all] at h
    exact ⟨h⟩
   clear HI
   go_wp2_with (first | refine wpList_load_any rfl 23 (.tmp 5) rfl G5 rfl 23 (dc u) (.array 256 21) HJ.out.2.2.2.2.1 Try.underlying23 rfl (info_dD.trans (size_dc _)) ?_ | refine wpList_store_any rfl 23 (.tmp 4) (.tmp 43) rfl (N + 2) rfl (dc u) rfl 23 _ HJ.out.2.2.1 (info_dD.trans (size_dc _)) (same_dc _ _) (dc_one _) ?_)
   intro w7 r8 bt9 zbt9
   have HK : Shh (Row w7 N 33 (hc h) ∧ Row w7 (N + 1) 23 (dc r) ∧ Row w7 (N + 2) 23 (dc u) ∧ Below N w w7 ∧ Row w7 G5 23 (dc u) ∧ Row w7 G6 23 (dc dl) ∧ N + 2 < G5 ∧ G5 < G6) := by
    obtain ⟨h0, h1, h2, h3, h4, h5, h6, h7⟩ := HJ.out
    have := h0.lt
    have := h1.lt
    have := h2.lt
    have := h4.lt
    have := h5.lt
    have hb := bt9.under (Nat.le_of_lt h2.lt) (Nat.le_refl _)
    have := hb.size
    exact ⟨bt9.row h0 h0.lt (by omega), bt9.row h1 h1.lt (by omega), r8, h3.trans (hb.mono (by omega)), bt9.row h4 h4.lt (by omega), bt9.row h5 h5.lt (by omega), h6, h7⟩
   clear bt9 HJ r8 zbt9
   go_wp2
   exact ret_row Try.results38 rfl rfl HK.out.2.2.1 Try.underlying23 rfl (info_dD.trans (size_dc _)) ⟨rfl, HK.out.2.2.2.1⟩
end Go.Proofs.Ytapjiknedghhfaa
