/-
 THE PROGRAM'S OWN PackHints.
-/
import Derived.Test.YtflalpcceeocaaaPh1
namespace Go.Proofs.Ytflalpcceeocaaa
open Go.RowKit
set_option maxRecDepth 100000
def mayB (n most : Int) : Bool := decide (0 ≤ n) && (decide (n ≤ 16) && (decide (0 ≤ most) && decide (most ≤ 255)))
theorem mayHints_any (n most : Int) (w : World) : Calls Try.prog 13 #[.int .i64 n, .int .i64 most] w (fun e w' => e = .returned (.bool (mayB n most)) ∧ w = w') := by
 unfold mayB
 by_cases h1 : 0 ≤ n
 ·by_cases h2 : n ≤ 16
  ·by_cases h3 : 0 ≤ most
   ·by_cases h4 : most ≤ 255
    all_goals
     simp only [h1, h2, h3, h4, decide_true, decide_false, Bool.and_true, Bool.and_false]
     go_enter Try.func13, Try.ntmps13
     go_wp2
     go_ret
     exact ⟨rfl, rfl⟩
   ·simp only [h1, h2, h3, decide_true, decide_false, Bool.and_true, Bool.and_false, Bool.false_and]
    go_enter Try.func13, Try.ntmps13
    go_wp2
    go_ret
    exact ⟨rfl, rfl⟩
  ·simp only [h1, h2, decide_true, decide_false, Bool.and_true, Bool.and_false, Bool.false_and]
   go_enter Try.func13, Try.ntmps13
   go_wp2
   go_ret
   exact ⟨rfl, rfl⟩
 ·simp only [h1, decide_true, decide_false, Bool.and_true, Bool.and_false, Bool.false_and]
  go_enter Try.func13, Try.ntmps13
  go_wp2
  go_ret
  exact ⟨rfl, rfl⟩
def pkE (L : Nat → Nat → Bool) (n most : Nat) : Int := if (plc L n).length ≤ most then 0 else 3
def pkB (L : Nat → Nat → Bool) (n most : Nat) : List UInt8 := if (plc L n).length ≤ most then packB L n most else []
/-- the answer: bytes, and an error -/
def BytesErr (w : World) (E : Int) (bs : List UInt8) (e : Ending) (w' : World) : Prop := ∃ v, e = .returned (.tuple #[v, .int .i64 E]) ∧ Sl w' w'.heap.size v bs ∧ Below w.heap.size w w'
set_option maxHeartbeats 4000000 in
theorem PackHints_bad (n : Nat) (most : Int) (hb : mayB (n : Int) most = false) (A : Option Addr) (c0 : Nat) (w : World) : Calls Try.prog 5 #[.slice A n c0, .int .i64 most] w (BytesErr w 1 []) := by
 unfold BytesErr
 have HMY : Shh (∀ W, Calls Try.prog 13 #[.int .i64 (n : Int), .int .i64 most] W (fun e w' => e = .returned (.bool false) ∧ W = w')) := ⟨fun W => by rw [← hb]; exact mayHints_any _ _ W⟩
 clear hb
 go_enter Try.func5, Try.ntmps5
 go_wp2_with (go_at_call 13; refine (HMY.out _).mono ?_)
 rintro e w1 ⟨rfl, rfl⟩
 go_wp2
 go_ret2
 exact ⟨_, rfl, Sl.nil_, Below.refl _ _⟩
set_option maxHeartbeats 8000000 in
theorem PackHints_ok (n most : Nat) (hn : n ≤ 16) (hm : most ≤ 255) (B : Nat) (v : Value) (L : Nat → Nat → Bool) (w : World) (hs : HintsAt w B v n L) (hB : B ≤ w.heap.size) : Calls Try.prog 5 #[v, .int .i64 (most : Int)] w (BytesErr w (pkE L n most) (pkB L n most)) := by
 unfold BytesErr
 generalize hN : w.heap.size = N at *
 have HMY : Shh (∀ W, Calls Try.prog 13 #[.int .i64 (n : Int), .int .i64 (most : Int)] W (fun e w' => e = .returned (.bool true) ∧ W = w')) := ⟨fun W => by
  have h : mayB (n : Int) (most : Int) = true := by
   unfold mayB
   simp
   omega
  rw [← h]
  exact mayHints_any _ _ W⟩
 obtain ⟨A, c0, rfl⟩ := hs.form
 obtain ⟨t, ht⟩ : ∃ t : Nat, Shh (t = most + n ∧ t ≤ 1000) := ⟨_, ⟨rfl, by omega⟩⟩
 have HN1 := Shh.mk (And.intro hn hm)
 have HP0 : Shh (pst (plc L 0) most (endsB L 0) n = List.replicate t 0) := ⟨by rw [ht.out.1]; exact pst_zero most n⟩
 have FA : Shh (HintsAt w B (.slice A n c0) n L ∧ Below N w w ∧ B ≤ N ∧ N ≤ w.heap.size) := ⟨hs, Below.refl _ _, hB, by rw [hN]; exact Nat.le_refl _⟩
 clear hs hB hn hm
 go_enter Try.func5, Try.ntmps5
 go_wp2_with ((go_at_call 13; refine (HMY.out _).mono ?_))
 rintro e w1 ⟨rfl, rfl⟩
 go_wp2_with (first | refine wl_at 19 rfl (.int .i64 (t : Int)) rfl (add_n (i := (most : Int)) (j := (n : Int)) ⟨by have := ht.out; omega, by have := ht.out; omega, by have := ht.out; omega⟩ rfl rfl rfl) ?_ | refine wl_makeB t 20 (by have := ht.out; omega) rfl rfl rfl rfl rfl ?_)
 intro G w1 hG r b
 try simp only [Act.put, arr9, hd9, tl9]
 rw [← HP0.out] at r
 have FB : Shh (HintsAt w1 (B) (.slice A n c0) (n) (L) ∧ Below N w w1 ∧ B ≤ N ∧ N ≤ w1.heap.size ∧ Row w1 G 5 (Lib.byteCells (pst (plc L 0) most (endsB L 0) n)) ∧ N ≤ G) := by
  obtain ⟨h0, h1, h2, h3⟩ := FA.out
  have := b.size
  have := hG.out
  exact ⟨h0.below (b.mono (by omega)), h1.trans (b.mono (by omega)), h2, (by omega), r, (by omega)⟩
 clear b FA r hG HP0
 have FC : Shh ((0 = (plc L 0).length ∧ 0 ≤ most) ∧ Row w1 G 5 (Lib.byteCells (pst (plc L 0) most (endsB L 0) (n - 0))) ∧ HintsAt w1 (B) (.slice A n c0) (n) (L) ∧ Below N w w1 ∧ B ≤ N ∧ N ≤ w1.heap.size ∧ N ≤ G) := by
  have h := FB.out
  obtain ⟨h0, h1, h2, h3, h4, h5⟩ := h
  have h := And.intro (And.intro (rfl : 0 = (plc L 0).length) (Nat.zero_le most)) (And.intro h4 (And.intro h0 (And.intro h1 (And.intro h2 (And.intro h3 h5)))))
  exact ⟨h⟩
 clear FB
 go_wp2
 go_loopw [7, 23] (fun c i wr => ∃ k m : Nat, k ≤ n ∧ i = .int .i64 (k : Int) ∧ c = .int .i64 (m : Int) ∧ Shh ((m = (plc L k).length ∧ m ≤ most) ∧ Row wr G 5 (Lib.byteCells (pst (plc L k) most (endsB L k) (n - k))) ∧ HintsAt wr (B) (.slice A n c0) (n) (L) ∧ Below N w wr ∧ B ≤ N ∧ N ≤ wr.heap.size ∧ N ≤ G)) (fun _ i _ => n - (intOf i).toNat)
 case atStart => exact ⟨0, 0, Nat.zero_le _, rfl, rfl, ⟨by skip; exact FC.out⟩⟩
 case round =>
  clear FC
  obtain ⟨k, m, hk, rfl, rfl, HI⟩ := hrel
  by_cases hlt : k < n
  ·have hlt2 : (k : Int) < (n : Int) := by omega
   obtain ⟨g, o, rfl, hg, hr⟩ := (HI.out.2.2.1).at_ (by omega)
   have HRK := Shh.mk (hr k hlt)
   have hgB := Shh.mk hg
   clear hr hg
   go_wp2_with (first | refine wl_at 26 rfl (.pointer (some ⟨g, o + k * 256, none⟩)) rfl (at_hl hlt rfl rfl rfl) ?_ | refine wpList_load_mid rfl 39 (.tmp 26) rfl g (o + k * 256) rfl (hc (L k)) (.array 256 4) HRK.out Try.underlying39 rfl (info_dH.trans (size_hc _)) ?_ | refine wl_newzH 9 rfl rfl rfl ?_)
   intro H w2 hH r b
   try simp only [Act.put, arr9, hd9, tl9]
   have HJ : Shh ((m = (plc L k).length ∧ m ≤ most) ∧ Row w2 G 5 (Lib.byteCells (pst (plc L k) most (endsB L k) (n - k))) ∧ HintsAt w2 (B) (.slice (some ⟨g, o, none⟩) n c0) (n) (L) ∧ Below N w w2 ∧ B ≤ N ∧ N ≤ w2.heap.size ∧ N ≤ G ∧ Row w2 H 39 (hc fun _ => false) ∧ G < H) := by
    obtain ⟨h0, h1, h2, h3, h4, h5, h6⟩ := HI.out
    have := h1.lt
    have := b.size
    have := hH.out
    exact ⟨h0, h1.go b, h2.below (b.mono (by omega)), h3.trans (b.mono (by omega)), h4, (by omega), h6, r, (by have := h1.lt; omega)⟩
   clear b HI r hH HRK
   go_wp2_with (first | refine wpList_store_any rfl 39 (.tmp 9) (.tmp 27) rfl H rfl (hc (L k)) rfl 39 _ HJ.out.2.2.2.2.2.2.2.1 (info_dH.trans (size_hc _)) (same_hc _ _) (hc_one _) ?_)
   intro w3 r4 bt5 zbt5
   have HK : Shh ((m = (plc L k).length ∧ m ≤ most) ∧ Row w3 G 5 (Lib.byteCells (pst (plc L k) most (endsB L k) (n - k))) ∧ HintsAt w3 (B) (.slice (some ⟨g, o, none⟩) n c0) (n) (L) ∧ Below N w w3 ∧ B ≤ N ∧ N ≤ w3.heap.size ∧ N ≤ G ∧ Row w3 H 39 (hc (L k)) ∧ G < H) := by
    obtain ⟨h0, h1, h2, h3, h4, h5, h6, h7, h8⟩ := HJ.out
    have := h1.lt
    have := h7.lt
    have hb := bt5.under (Nat.le_of_lt h7.lt) (Nat.le_refl _)
    have := hb.size
    exact ⟨h0, bt5.row h1 h1.lt (by omega), h2.below (hb.mono (by omega)), h3.trans (hb.mono (by omega)), h4, (by omega), h6, r4, h8⟩
   clear bt5 HJ r4 zbt5
   have HL : Shh ((m = (plc L k ++ pls (L k) 0).length ∧ m ≤ most) ∧ Row w3 G 5 (Lib.byteCells (pst (plc L k ++ pls (L k) 0) most (endsB L k) (n - k))) ∧ HintsAt w3 (B) (.slice (some ⟨g, o, none⟩) n c0) (n) (L) ∧ Below N w w3 ∧ B ≤ N ∧ N ≤ w3.heap.size ∧ N ≤ G ∧ G < H ∧ Row w3 H 39 (hc (L k))) := by
    have h := HK.out
    obtain ⟨h0, h1, h2, h3, h4, h5, h6, h7, h8⟩ := h
    have hz : plc L k ++ pls (L k) 0 = plc L k := List.append_nil _
    rw [hz]
    have h := And.intro (h0) (And.intro (h1) (And.intro (h2) (And.intro (h3) (And.intro (h4) (And.intro (h5) (And.intro (h6) (And.intro (h8) (h7))))))))
    exact ⟨h⟩
   clear HK
   go_wp2
   go_loopw [7, 28] (fun c i wr => ∃ j q : Nat, j ≤ 256 ∧ i = .int .i64 (j : Int) ∧ c = .int .i64 (q : Int) ∧ Shh ((q = (plc L k ++ pls (L k) j).length ∧ q ≤ most) ∧ Row wr G 5 (Lib.byteCells (pst (plc L k ++ pls (L k) j) most (endsB L k) (n - k))) ∧ HintsAt wr (B) (.slice (some ⟨g, o, none⟩) n c0) (n) (L) ∧ Below N w wr ∧ B ≤ N ∧ N ≤ wr.heap.size ∧ N ≤ G ∧ G < H ∧ Row wr H 39 (hc (L k)))) (fun _ i _ => 256 - (intOf i).toNat)
   case atStart => exact ⟨0, m, Nat.zero_le _, rfl, rfl, ⟨by skip; exact HL.out⟩⟩
   case round =>
    clear HL
    obtain ⟨j, q, hj, rfl, rfl, HI⟩ := hrel
    by_cases hjl : j < 256
    ·have hjl2 : (j : Int) < 256 := by omega
     have HGJ := Shh.mk (hc_get (L k) hjl)
     cases hb : L k j with
     | false =>
      rw [hb] at HGJ
      have HX := Shh.mk (pls_no hb)
      have HJ : Shh ((q = (plc L k ++ pls (L k) (j + 1)).length ∧ q ≤ most) ∧ Row wr G 5 (Lib.byteCells (pst (plc L k ++ pls (L k) (j + 1)) most (endsB L k) (n - k))) ∧ HintsAt wr (B) (.slice (some ⟨g, o, none⟩) n c0) (n) (L) ∧ Below N w wr ∧ B ≤ N ∧ N ≤ wr.heap.size ∧ N ≤ G ∧ G < H ∧ Row wr H 39 (hc (L k))) := by
       have h := HI.out
       rw [HX.out]
       exact ⟨h⟩
      clear HI
      clear hb
      go_wp2_with (first | refine wl_at 32 rfl (.pointer (some ⟨H, j, none⟩)) rfl (at_dH hjl rfl rfl rfl) ?_ | refine wl_at 33 rfl (.bool false) rfl (load_b rfl (((HJ.out.2.2.2.2.2.2.2.2).cell j).trans HGJ.out) rfl) ?_)
      go_roundw
      case rel => exact ⟨j + 1, q, by omega, by go_num, rfl, HJ⟩
      case measure => simp [intOf]; omega
     | true =>
      rw [hb] at HGJ
      have HX := Shh.mk (pls_yes hb)
      clear hb
      by_cases hqm : q = most
      ·have hqi : ((q : Int) == (most : Int)) = true := by simp [hqm]
       have HF : Shh (¬ (plc L n).length ≤ most) := ⟨by
        have h1 := plc_in L hlt (show j + 1 ≤ 256 by omega)
        rw [HX.out, ← List.append_assoc, List.length_append, ← (HI.out.1).1] at h1
        simp only [List.length_cons, List.length_nil] at h1
        omega⟩
       go_wp2_with (first | refine wl_at 32 rfl (.pointer (some ⟨H, j, none⟩)) rfl (at_dH hjl rfl rfl rfl) ?_ | refine wl_at 33 rfl (.bool true) rfl (load_b rfl (((HI.out.2.2.2.2.2.2.2.2).cell j).trans HGJ.out) rfl) ?_)
       go_ret2
       exact ⟨_, by unfold pkE; rw [if_neg HF.out]; rfl, by unfold pkB; rw [if_neg HF.out]; exact Sl.nil_, HI.out.2.2.2.1⟩
      ·have hqi : ((q : Int) == (most : Int)) = false := by simp; omega
       have HQ : Shh (q < most ∧ q < 1000000 ∧ q < (pst (plc L k ++ pls (L k) j) most (endsB L k) (n - k)).length ∧ q < t) := ⟨by
        have h1 := HI.out.1
        have h2 := HN1.out
        have h3 := ht.out
        rw [pst_length (by omega)]
        omega⟩
       obtain ⟨bj, Hbj⟩ : ∃ b : UInt8, Shh (b = UInt8.ofNat j) := ⟨_, ⟨rfl⟩⟩
       have HS2 : Shh ((pst (plc L k ++ pls (L k) j) most (endsB L k) (n - k)).set q bj = pst (plc L k ++ pls (L k) (j + 1)) most (endsB L k) (n - k) ∧ q + 1 = (plc L k ++ pls (L k) (j + 1)).length ∧ q + 1 ≤ most) := ⟨by
        have h1 := HI.out.1
        rw [HX.out, Hbj.out]
        refine ⟨?_, by rw [← List.append_assoc, List.length_append, ← h1.1]; rfl, by have := HQ.out; omega⟩
        rw [h1.1, pst_place (by have := HQ.out; omega), List.append_assoc]⟩
       clear HX
       generalize pst (plc L k ++ pls (L k) j) most (endsB L k) (n - k) = ps at *
       go_wp2_with (first | refine wl_at 32 rfl (.pointer (some ⟨H, j, none⟩)) rfl (at_dH hjl rfl rfl rfl) ?_ | refine wl_at 33 rfl (.bool true) rfl (load_b rfl (((HI.out.2.2.2.2.2.2.2.2).cell j).trans HGJ.out) rfl) ?_ | refine wl_at 41 rfl (.int .u8 (bj.toNat : Int)) rfl (conv_b (n := j) Hbj.out rfl rfl) ?_ | refine wl_at 42 rfl (.pointer (some ⟨G, q, none⟩)) rfl (at_b0 HQ.out.2.2.2 rfl rfl rfl) ?_ | refine wl_storeB rfl HQ.out.2.2.1 rfl rfl rfl HI.out.2.1 ?_)
       intro w6 r bt zb
       rw [HS2.out.1] at r
       have HJ : Shh ((q = (plc L k ++ pls (L k) j).length ∧ q ≤ most) ∧ Row w6 G 5 (Lib.byteCells (pst (plc L k ++ pls (L k) (j + 1)) most (endsB L k) (n - k))) ∧ HintsAt w6 (B) (.slice (some ⟨g, o, none⟩) n c0) (n) (L) ∧ Below N w w6 ∧ B ≤ N ∧ N ≤ w6.heap.size ∧ N ≤ G ∧ G < H ∧ Row w6 H 39 (hc (L k))) := by
        obtain ⟨h0, h1, h2, h3, h4, h5, h6, h7, h8⟩ := HI.out
        have := h1.lt
        have := h8.lt
        have hb := bt.under (Nat.le_of_lt h1.lt) (Nat.le_refl _)
        have := hb.size
        exact ⟨h0, r, h2.below (hb.mono (by omega)), h3.trans (hb.mono (by omega)), h4, (by omega), h6, h7, bt.row h8 h8.lt (by omega)⟩
       clear bt HI r zb
       have HK : Shh ((q + 1 = (plc L k ++ pls (L k) (j + 1)).length ∧ q + 1 ≤ most) ∧ Row w6 G 5 (Lib.byteCells (pst (plc L k ++ pls (L k) (j + 1)) most (endsB L k) (n - k))) ∧ HintsAt w6 (B) (.slice (some ⟨g, o, none⟩) n c0) (n) (L) ∧ Below N w w6 ∧ B ≤ N ∧ N ≤ w6.heap.size ∧ N ≤ G ∧ G < H ∧ Row w6 H 39 (hc (L k))) := by
        have h := HJ.out
        have h := And.intro HS2.out.2 h.2
        exact ⟨h⟩
       clear HJ
       go_wp2_with (refine wl_at 44 rfl (.int .i64 ((q + 1 : Nat) : Int)) rfl (add_n (i := (q : Int)) (j := 1) ⟨by omega, by omega, by have := HQ.out; omega⟩ rfl rfl rfl) ?_)
       go_roundw
       case rel => exact ⟨j + 1, q + 1, by omega, by go_num, rfl, HK⟩
       case measure => simp [intOf]; omega
    ·have hjl2 : ¬ (j : Int) < 256 := by omega
     have HJ : Shh (j = 256) := ⟨by omega⟩
     have HQ : Shh (most + k < (pst (plc L k ++ pls (L k) j) most (endsB L k) (n - k)).length ∧ most + k < t ∧ most + k < 1000000) := ⟨by
      have h1 := HI.out.1
      have h2 := HN1.out
      have h3 := ht.out
      rw [pst_length (by omega), endsB_length]
      omega⟩
     obtain ⟨bj, Hbj⟩ : ∃ b : UInt8, Shh (b = UInt8.ofNat q) := ⟨_, ⟨rfl⟩⟩
     obtain ⟨p, Hp⟩ : ∃ p : Nat, Shh (p = most + k) := ⟨_, ⟨rfl⟩⟩
     rw [← Hp.out] at HQ
     have HS2 : Shh ((pst (plc L k ++ pls (L k) j) most (endsB L k) (n - k)).set p bj = pst (plc L (k + 1)) most (endsB L (k + 1)) (n - (k + 1)) ∧ q = (plc L (k + 1)).length ∧ q ≤ most) := ⟨by
      have h1 := HI.out.1
      have e1 : plc L k ++ pls (L k) j = plc L (k + 1) := by rw [HJ.out]; exact (plc_succ L k).symm
      rw [e1] at h1 ⊢
      refine ⟨?_, h1⟩
      rw [Hp.out, show n - k = n - (k + 1) + 1 by omega]
      have h2 := pst_end (X := plc L (k + 1)) (Y := endsB L k) (m := most) (r := n - (k + 1)) (by omega) bj
      rw [endsB_length] at h2
      rw [h2, Hbj.out, h1.1]
      rfl⟩
     generalize pst (plc L k ++ pls (L k) j) most (endsB L k) (n - k) = ps at *
     go_wp2_with (first | refine wl_at 49 rfl (.int .i64 (p : Int)) rfl (add_n (i := (most : Int)) (j := (k : Int)) ⟨by have := Hp.out; omega, by omega, by have := HQ.out; omega⟩ rfl rfl rfl) ?_ | refine wl_at 51 rfl (.int .u8 (bj.toNat : Int)) rfl (conv_b (n := q) Hbj.out rfl rfl) ?_ | refine wl_at 52 rfl (.pointer (some ⟨G, p, none⟩)) rfl (at_b0 HQ.out.2.1 rfl rfl rfl) ?_ | refine wl_storeB rfl HQ.out.1 rfl rfl rfl HI.out.2.1 ?_)
     intro w6 r bt zb
     rw [HS2.out.1] at r
     have HJ : Shh ((q = (plc L k ++ pls (L k) j).length ∧ q ≤ most) ∧ Row w6 G 5 (Lib.byteCells (pst (plc L (k + 1)) most (endsB L (k + 1)) (n - (k + 1)))) ∧ HintsAt w6 (B) (.slice (some ⟨g, o, none⟩) n c0) (n) (L) ∧ Below N w w6 ∧ B ≤ N ∧ N ≤ w6.heap.size ∧ N ≤ G ∧ G < H ∧ Row w6 H 39 (hc (L k))) := by
      obtain ⟨h0, h1, h2, h3, h4, h5, h6, h7, h8⟩ := HI.out
      have := h1.lt
      have := h8.lt
      have hb := bt.under (Nat.le_of_lt h1.lt) (Nat.le_refl _)
      have := hb.size
      exact ⟨h0, r, h2.below (hb.mono (by omega)), h3.trans (hb.mono (by omega)), h4, (by omega), h6, h7, bt.row h8 h8.lt (by omega)⟩
     clear bt HI r zb
     have HK : Shh ((q = (plc L (k + 1)).length ∧ q ≤ most) ∧ Row w6 G 5 (Lib.byteCells (pst (plc L (k + 1)) most (endsB L (k + 1)) (n - (k + 1)))) ∧ HintsAt w6 (B) (.slice (some ⟨g, o, none⟩) n c0) (n) (L) ∧ Below N w w6 ∧ B ≤ N ∧ N ≤ w6.heap.size ∧ N ≤ G) := by
      have h := HJ.out
      obtain ⟨h0, h1, h2, h3, h4, h5, h6, h7, h8⟩ := h
      have h := And.intro (HS2.out.2) (And.intro (h1) (And.intro (h2) (And.intro (h3) (And.intro (h4) (And.intro (h5) (h6))))))
      exact ⟨h⟩
     clear HJ
     have hn16 := HN1.out.1
     go_wp2
     go_roundw
     case rel => exact ⟨k + 1, q, by omega, by go_num, rfl, HK⟩
     case measure => simp [intOf]; omega
  ·have hlt2 : ¬ (k : Int) < (n : Int) := by omega
   have hkn : k = n := by omega
   have HF : Shh ((plc L n).length ≤ most) := ⟨by have h1 := HI.out.1; rw [← hkn]; omega⟩
   have HR : Shh (Row wr G 5 (Lib.byteCells (packB L n most))) := ⟨by
    have h1 := HI.out.2.1
    rw [hkn, Nat.sub_self, pst_pack] at h1
    exact h1⟩
   have HLN : Shh ((packB L n most).length = t ∧ t ≤ 1000) := ⟨by
    have h1 := pst_length (X := plc L n) (Y := endsB L n) (m := most) (r := 0) HF.out
    rw [pst_pack, endsB_length] at h1
    have := ht.out
    omega⟩
   clear hkn
   go_wp2
   go_ret2
   exact ⟨_, by unfold pkE; rw [if_pos HF.out]; rfl, by unfold pkB; rw [if_pos HF.out]; exact Sl.of_bytes HR.out HR.out.lt HLN.out.1 (by have := HLN.out; omega), HI.out.2.2.2.1⟩
end Go.Proofs.Ytflalpcceeocaaa
