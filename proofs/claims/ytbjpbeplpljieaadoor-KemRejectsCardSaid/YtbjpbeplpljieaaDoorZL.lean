import Derived.Test.YtbjpbeplpljieaaDoorZB
import Derived.Test.YtbjpbeplpljieaaDoorZK
/-
 THE WALK of octet.Choose.
-/
namespace Go.Proofs.YtbjpbeplpljieaaDoor
open Go.RowKit
set_option maxRecDepth 100000
set_option maxHeartbeats 1000000 in
theorem choose_any (first : Bool) (B B' : Nat) (va vb : Value) (us bs : List UInt8) (w : World) (ha : Sl w B va us) (hb : Sl w B' vb bs) (hB : B ≤ w.heap.size) (hB' : B' ≤ w.heap.size) (hl : us.length ≤ 1099511627776) (_hl2 : bs.length ≤ 1099511627776) :
  Calls Tryd.prog 33 #[.bool first, va, vb] w (PutIs w (pairE us bs) (chosen first us bs)) := by
 obtain ⟨A, c, rfl, _, _⟩ := ha.form
 obtain ⟨A', c', rfl, _, _⟩ := hb.form
 unfold pairE chosen
 by_cases hlen : us.length = bs.length
 ·rw [if_pos hlen, if_pos hlen]
  have ht : ((us.length : Int) != (bs.length : Int)) = false := by rw [bne_eq_false_iff_eq]; omega
  have hl3 : bs.length ≤ us.length := by omega
  have hl4 : us.length ≤ bs.length := by omega
  have hmk := make_run us.length (by omega)
  clear hlen
  cases first
  all_goals
   simp only [Bool.false_eq_true, if_false, if_true]
   go_enter Tryd.func33, Tryd.ntmps33
   go_wp2
  ·go_loopw [10, 11, 23] (fun _ _ i wr => ∃ k : Nat, k ≤ us.length ∧ i = .int .i64 k ∧ Blk wr w.heap.size (bs.take k ++ List.replicate (us.length - k) 0) ∧ Below w.heap.size w wr) (fun _ _ i _ => us.length - (intOf i).toNat)
   case atStart => exact ⟨0, Nat.zero_le _, rfl, by simpa using Blk.new w _, (Below.refl _ _).alloc (Nat.le_refl _) _⟩
   case round =>
    obtain ⟨k, hk, rfl, hblk, hbel⟩ := hrel
    by_cases hlt : k < us.length
    ·have har := ha.below (hbel.mono hB)
     have hbr := hb.below (hbel.mono hB')
     obtain ⟨b, off, rfl, hbb, hc⟩ := har.at_ (by omega)
     obtain ⟨b', off', rfl, hbb', hc'⟩ := hbr.at_ (by omega)
     have hk2 : k < bs.length := by omega
     have hc1 := hc k hlt
     have hc2 := hc' k hk2
     have hcx := hblk.cell k (by simp; omega)
     have hf := hblk.free k
     have q1 := and0 us[k]
     have q2 := andNot0 bs[k]
     have q3 := zor bs[k]
     have hs := hblk.set_ k bs[k]
     rw [set_step bs k us.length (by omega) hlt] at hs
     have HS := Lib.hid hs
     clear hc hc' hs har hbr
     go_wp2
     go_roundw
     case rel => exact ⟨k + 1, by omega, by go_num, HS.out, hbel.setCell (Nat.le_refl _) _⟩
     case measure => simp [intOf]; omega
    ·obtain rfl : k = us.length := by omega
     have HO : Hid (Blk wr w.heap.size bs) := by
      rw [List.take_of_length_le (by omega), Nat.sub_self] at hblk
      exact Lib.hid (by simpa using hblk)
     clear hblk
     go_wp2
     go_ret2
     exact ⟨_, rfl, gives_blk (by omega) hl HO.out hbel⟩
  ·go_loopw [10, 11, 23] (fun _ _ i wr => ∃ k : Nat, k ≤ us.length ∧ i = .int .i64 k ∧ Blk wr w.heap.size (us.take k ++ List.replicate (us.length - k) 0) ∧ Below w.heap.size w wr) (fun _ _ i _ => us.length - (intOf i).toNat)
   case atStart => exact ⟨0, Nat.zero_le _, rfl, by simpa using Blk.new w _, (Below.refl _ _).alloc (Nat.le_refl _) _⟩
   case round =>
    obtain ⟨k, hk, rfl, hblk, hbel⟩ := hrel
    by_cases hlt : k < us.length
    ·have har := ha.below (hbel.mono hB)
     have hbr := hb.below (hbel.mono hB')
     obtain ⟨b, off, rfl, hbb, hc⟩ := har.at_ (by omega)
     obtain ⟨b', off', rfl, hbb', hc'⟩ := hbr.at_ (by omega)
     have hk2 : k < bs.length := by omega
     have hc1 := hc k hlt
     have hc2 := hc' k hk2
     have hcx := hblk.cell k (by simp; omega)
     have hf := hblk.free k
     have q1 := and255 us[k]
     have q2 := andNot255 bs[k]
     have q3 := or0 us[k]
     have hs := hblk.set_ k us[k]
     rw [set_step us k us.length (by omega) hlt] at hs
     have HS := Lib.hid hs
     clear hc hc' hs har hbr
     go_wp2
     go_roundw
     case rel => exact ⟨k + 1, by omega, by go_num, HS.out, hbel.setCell (Nat.le_refl _) _⟩
     case measure => simp [intOf]; omega
    ·obtain rfl : k = us.length := by omega
     have HO : Hid (Blk wr w.heap.size us) := by
      rw [List.take_of_length_le (by omega), Nat.sub_self] at hblk
      exact Lib.hid (by simpa using hblk)
     clear hblk
     go_wp2
     go_ret2
     exact ⟨_, rfl, gives_blk (by omega) hl HO.out hbel⟩
 ·rw [if_neg hlen, if_neg hlen]
  have ht : ((us.length : Int) != (bs.length : Int)) = true := by rw [bne_iff_ne]; omega
  clear hlen
  go_enter Tryd.func33, Tryd.ntmps33
  go_wp2
  go_ret2
  exact ⟨_, rfl, gives_nil w⟩
end Go.Proofs.YtbjpbeplpljieaaDoor

/-
 THE EXPORTED FUNCTIONS: Decaps.
-/
namespace Go.Proofs.YtbjpbeplpljieaaDoor
open Go.RowKit
set_option maxRecDepth 100000
def dcM (dk ct : List UInt8) : List UInt8 := decE (dk.take 1152) ct
def dcK (dk ct : List UInt8) : List UInt8 := dhK (dcM dk ct) (dkH dk)
def dcR (dk ct : List UInt8) : List UInt8 := dhR (dcM dk ct) (dkH dk)
def dcAgain (dk ct : List UInt8) : List UInt8 := encE (dkEk dk) (dcM dk ct) (dcR dk ct)
def dcRej (dk ct : List UInt8) : List UInt8 := spongeL 136 31 (dk.drop 2368 ++ ct) 32
/-- the key that is told of a ciphertext -/
def dcF (dk ct : List UInt8) : List UInt8 := if dcAgain dk ct = ct then dcK dk ct else dcRej dk ct
theorem dcF_length (dk ct : List UInt8) : (dcF dk ct).length = 32 := by
 unfold dcF
 split
 ·exact dhK_length _ _
 ·exact spongeL_length _ _ _ _
theorem dkEk_length (dk : List UInt8) (hl : dk.length = 2400) : (dkEk dk).length = 1184 := by unfold dkEk; rw [List.length_drop, List.length_take]; omega
theorem dkH_length (dk : List UInt8) (hl : dk.length = 2400) : (dkH dk).length = 32 := by unfold dkH; rw [List.length_drop, List.length_take]; omega
set_option maxHeartbeats 4000000 in
theorem Decaps_hash (dk : List UInt8) (hl : dk.length = 2400) (hh : ¬ dkH dk = hB (dkEk dk)) (ct : List UInt8)  (B B2 : Nat) (v v2 : Value) (w : World) (hs : Sl w B v dk) (hBB : B ≤ w.heap.size) (hs2 : Sl w B2 v2 ct) (hB2 : B2 ≤ w.heap.size) (hv : KVars w) : Calls Tryd.prog 9 #[v, v2] w (ArrErIs w z32 141) := by
 unfold ArrErIs
 have hmf := hmf
 have hpos := hv.pos
 have HCK : Shh (∀ W B, Sl W B v dk → B ≤ W.heap.size → KVars W → Calls Tryd.prog 28 #[v] W (PanIs W 141)) := ⟨fun W B hs hB hv => (mustDk_any dk hl B v W hs hB hv).mono fun e w' h => h.2 hh⟩
 generalize hN : w.heap.size = N at *
 have hN0 := Shh.mk hN
 have HS0 : Shh (Sl w N v dk ∧ Sl w N v2 ct ∧ KVars w ∧ 0 < N) := ⟨hs.more hBB, hs2.more hB2, hv, hpos⟩
 obtain ⟨A, c, rfl, hcc, _⟩ := hs.form
 obtain ⟨A2, c2, rfl, _, _⟩ := hs2.form
 clear hs hBB hs2 hB2 hv hpos hl hh hcc hN
 go_enter_defers Tryd.func9, Tryd.ntmps9
 go_wp2_with (refine wl_zero32 4 rfl rfl rfl ?_)
 intro N1 w1 hN1 r1 b1
 simp only [Act.put, arr9, hd9, tl9]
 obtain rfl : N = N1 := hN0.out.symm.trans hN1.out.symm
 have FA : Shh (Row w1 N 22 (Lib.byteCells z32) ∧ Sl w1 (N) (.slice A dk.length c) (dk) ∧ Sl w1 (N) (.slice A2 ct.length c2) (ct) ∧ KVars w1 ∧ 0 < N ∧ Below N w w1) := by
  obtain ⟨h1, h2, h3, h4⟩ := HS0.out
  rw [hN0.out] at b1
  exact ⟨r1, h1.below b1, h2.below b1, h3.step (by rw [hN0.out]; exact b1), h4, b1⟩
 clear r1 b1 hN1 HS0
 go_wp2_with (refine wl_zeroE 5 rfl rfl rfl ?_)
 intro G5 w12 hG5 r13 b11
 simp only [Act.put, arr9, hd9, tl9]
 have FB : Shh (Row w12 N 22 (Lib.byteCells z32) ∧ Sl w12 (N) (.slice A dk.length c) (dk) ∧ Sl w12 (N) (.slice A2 ct.length c2) (ct) ∧ KVars w12 ∧ 0 < N ∧ Below N w w12 ∧ Row w12 G5 24 ([.int .i64 0]) ∧ N < G5) := by
  obtain ⟨h0, h1, h2, h3, h4, h5⟩ := FA.out
  have := h0.lt
  have := b11.size
  have := hG5.out
  exact ⟨h0.go b11, h1.below (b11.mono (by omega)), h2.below (b11.mono (by omega)), h3.step b11, h4, h5.trans (b11.mono (by omega)), r13, (by omega)⟩
 clear b11 FA r13 hG5
 go_wp2_with (go_at_call 28; refine (HCK.out _ N FB.out.2.1 (Nat.le_of_lt (FB.out.1).lt) FB.out.2.2.2.1).mono ?_)
 rintro e w3 ⟨rfl, b3⟩
 have FC : Shh (Row w3 N 22 (Lib.byteCells z32) ∧ Sl w3 (N) (.slice A dk.length c) (dk) ∧ Sl w3 (N) (.slice A2 ct.length c2) (ct) ∧ KVars w3 ∧ 0 < N ∧ Below N w w3 ∧ Row w3 G5 24 ([.int .i64 0]) ∧ N < G5) := by
  obtain ⟨h0, h1, h2, h3, h4, h5, h6, h7⟩ := FB.out
  have := h0.lt
  have := h6.lt
  have := b3.size
  exact ⟨h0.go b3, h1.below (b3.mono (by omega)), h2.below (b3.mono (by omega)), h3.step b3, h4, h5.trans (b3.mono (by omega)), h6.go b3, h7⟩
 clear b3 FB HCK
 go_wp2
 refine leaves_cons (f := 27) (args := #[.pointer (some ⟨G5, 0, none⟩)]) (by simp) (by simp [go_sem]) ?_
 refine (caught_de G5 0 141 [] _ (FC.out.2.2.2.2.2.2.1)).mono ?_
 rintro e u' w'' ⟨rfl, rfl, rfl⟩
 exact ⟨_, results_cc Tryd.results9 _ _ ⟨N, 0, none⟩ ⟨G5, 0, none⟩ _ _ rfl rfl (load_a32 z32_length ((FC.out.1).other ⟨G5, 0, none⟩ _ (by have := FC.out.2.2.2.2.2.2.2; show ¬ N = G5; omega))) (load_er (set_er (FC.out.2.2.2.2.2.2.1) 141)), rfl, (FC.out.2.2.2.2.2.1).setCell (p := ⟨G5, 0, none⟩) (by have := FC.out.2.2.2.2.2.2.2; show N ≤ G5; omega) _⟩
set_option maxHeartbeats 4000000 in
theorem Decaps_len (dk : List UInt8) (hl : dk.length = 2400) (hh : dkH dk = hB (dkEk dk)) (ct : List UInt8) (hct : ¬ ct.length = 1088) (B B2 : Nat) (v v2 : Value) (w : World) (hs : Sl w B v dk) (hBB : B ≤ w.heap.size) (hs2 : Sl w B2 v2 ct) (hB2 : B2 ≤ w.heap.size) (hv : KVars w) : Calls Tryd.prog 9 #[v, v2] w (ArrErIs w z32 142) := by
 unfold ArrErIs
 have hmf := hmf
 have hpos := hv.pos
 have HCK : Shh (∀ W B, Sl W B v dk → B ≤ W.heap.size → KVars W → Calls Tryd.prog 28 #[v] W (DoneIs W)) := ⟨fun W B hs hB hv => (mustDk_any dk hl B v W hs hB hv).mono fun e w' h => h.1 hh⟩
 have HLL : Shh (¬ (ct.length : Int) = 1088) := ⟨by omega⟩
 generalize hN : w.heap.size = N at *
 have hN0 := Shh.mk hN
 have HS0 : Shh (Sl w N v dk ∧ Sl w N v2 ct ∧ KVars w ∧ 0 < N) := ⟨hs.more hBB, hs2.more hB2, hv, hpos⟩
 obtain ⟨A, c, rfl, hcc, _⟩ := hs.form
 obtain ⟨A2, c2, rfl, _, _⟩ := hs2.form
 clear hs hBB hs2 hB2 hv hpos hl hh hcc hct hN
 go_enter_defers Tryd.func9, Tryd.ntmps9
 go_wp2_with (refine wl_zero32 4 rfl rfl rfl ?_)
 intro N1 w1 hN1 r1 b1
 simp only [Act.put, arr9, hd9, tl9]
 obtain rfl : N = N1 := hN0.out.symm.trans hN1.out.symm
 have FA : Shh (Row w1 N 22 (Lib.byteCells z32) ∧ Sl w1 (N) (.slice A dk.length c) (dk) ∧ Sl w1 (N) (.slice A2 ct.length c2) (ct) ∧ KVars w1 ∧ 0 < N ∧ Below N w w1) := by
  obtain ⟨h1, h2, h3, h4⟩ := HS0.out
  rw [hN0.out] at b1
  exact ⟨r1, h1.below b1, h2.below b1, h3.step (by rw [hN0.out]; exact b1), h4, b1⟩
 clear r1 b1 hN1 HS0
 go_wp2_with (refine wl_zeroE 5 rfl rfl rfl ?_)
 intro G5 w12 hG5 r13 b11
 simp only [Act.put, arr9, hd9, tl9]
 have FB : Shh (Row w12 N 22 (Lib.byteCells z32) ∧ Sl w12 (N) (.slice A dk.length c) (dk) ∧ Sl w12 (N) (.slice A2 ct.length c2) (ct) ∧ KVars w12 ∧ 0 < N ∧ Below N w w12 ∧ Row w12 G5 24 ([.int .i64 0]) ∧ N < G5) := by
  obtain ⟨h0, h1, h2, h3, h4, h5⟩ := FA.out
  have := h0.lt
  have := b11.size
  have := hG5.out
  exact ⟨h0.go b11, h1.below (b11.mono (by omega)), h2.below (b11.mono (by omega)), h3.step b11, h4, h5.trans (b11.mono (by omega)), r13, (by omega)⟩
 clear b11 FA r13 hG5
 go_wp2_with (go_at_call 28; refine (HCK.out _ N FB.out.2.1 (Nat.le_of_lt (FB.out.1).lt) FB.out.2.2.2.1).mono ?_)
 rintro e w3 ⟨rfl, b3⟩
 have FC : Shh (Row w3 N 22 (Lib.byteCells z32) ∧ Sl w3 (N) (.slice A dk.length c) (dk) ∧ Sl w3 (N) (.slice A2 ct.length c2) (ct) ∧ KVars w3 ∧ 0 < N ∧ Below N w w3 ∧ Row w3 G5 24 ([.int .i64 0]) ∧ N < G5) := by
  obtain ⟨h0, h1, h2, h3, h4, h5, h6, h7⟩ := FB.out
  have := h0.lt
  have := h6.lt
  have := b3.size
  exact ⟨h0.go b3, h1.below (b3.mono (by omega)), h2.below (b3.mono (by omega)), h3.step b3, h4, h5.trans (b3.mono (by omega)), h6.go b3, h7⟩
 clear b3 FB HCK
 go_wp2_with (first | refine wl_at 16 rfl (.bool false) rfl (eqi_no (i := ct.length) HLL.out rfl rfl) ?_ | (go_at_call 29; refine (demand_no 142 w3).mono ?_))
 rintro e w4 ⟨rfl, b4⟩
 have FD : Shh (Row w4 N 22 (Lib.byteCells z32) ∧ Sl w4 (N) (.slice A dk.length c) (dk) ∧ Sl w4 (N) (.slice A2 ct.length c2) (ct) ∧ KVars w4 ∧ 0 < N ∧ Below N w w4 ∧ Row w4 G5 24 ([.int .i64 0]) ∧ N < G5) := by
  obtain ⟨h0, h1, h2, h3, h4, h5, h6, h7⟩ := FC.out
  have := h0.lt
  have := h6.lt
  have := b4.size
  exact ⟨h0.go b4, h1.below (b4.mono (by omega)), h2.below (b4.mono (by omega)), h3.step b4, h4, h5.trans (b4.mono (by omega)), h6.go b4, h7⟩
 clear b4 FC
 go_wp2
 refine leaves_cons (f := 27) (args := #[.pointer (some ⟨G5, 0, none⟩)]) (by simp) (by simp [go_sem]) ?_
 refine (caught_de G5 0 142 [] _ (FD.out.2.2.2.2.2.2.1)).mono ?_
 rintro e u' w'' ⟨rfl, rfl, rfl⟩
 exact ⟨_, results_cc Tryd.results9 _ _ ⟨N, 0, none⟩ ⟨G5, 0, none⟩ _ _ rfl rfl (load_a32 z32_length ((FD.out.1).other ⟨G5, 0, none⟩ _ (by have := FD.out.2.2.2.2.2.2.2; show ¬ N = G5; omega))) (load_er (set_er (FD.out.2.2.2.2.2.2.1) 142)), rfl, (FD.out.2.2.2.2.2.1).setCell (p := ⟨G5, 0, none⟩) (by have := FD.out.2.2.2.2.2.2.2; show N ≤ G5; omega) _⟩
set_option maxHeartbeats 16000000 in
theorem Decaps_ok (dk : List UInt8) (hl : dk.length = 2400) (hh : dkH dk = hB (dkEk dk)) (hall : allOk ((dkEk dk).drop 1152)) (ct : List UInt8) (hct : ct.length = 1088) (B B2 : Nat) (v v2 : Value) (w : World) (hs : Sl w B v dk) (hBB : B ≤ w.heap.size) (hs2 : Sl w B2 v2 ct) (hB2 : B2 ≤ w.heap.size) (hv : KVars w) : Calls Tryd.prog 9 #[v, v2] w (ArrErIs w (dcF dk ct) 0) := by
 unfold ArrErIs
 have hmf := hmf
 have hpos := hv.pos
 have HCK : Shh (∀ W B, Sl W B v dk → B ≤ W.heap.size → KVars W → Calls Tryd.prog 28 #[v] W (DoneIs W)) := ⟨fun W B hs hB hv => (mustDk_any dk hl B v W hs hB hv).mono fun e w' h => h.1 hh⟩
 have HDC : Shh (∀ W B1 B2 u, Sl W B1 u (dk.take 1152) → B1 ≤ W.heap.size → Sl W B2 v2 ct → B2 ≤ W.heap.size → Calls Tryd.prog 30 #[u, v2] W (SumIs W (dcM dk ct))) := ⟨fun W B1 B2 u h1 h2 h3 h4 => decrypted_any (dk.take 1152) (by rw [List.length_take]; omega) ct hct B1 B2 u v2 W h1 h2 h3 h4⟩
 have HML : Shh ((dcM dk ct).length = 32 ∧ (dcK dk ct).length = 32 ∧ (dcR dk ct).length = 32 ∧ (dcAgain dk ct).length = 1088 ∧ (dcRej dk ct).length = 32 ∧ (dcF dk ct).length = 32) := ⟨decE_length _ _, dhK_length _ _, dhR_length _ _, encE_length _ _ _, spongeL_length _ _ _ _, dcF_length _ _⟩
 have HDE : Shh (∀ W B u, Sl W B u (dkH dk) → B ≤ W.heap.size → KVars W → Calls Tryd.prog 25 #[.agg (Lib.byteCells (dcM dk ct)).toArray, u] W (TwoIs W (dcK dk ct) (dcR dk ct))) := ⟨fun W B u hs hB' hv => kderived_any (dcM dk ct) (decE_length _ _) (dkH dk) B u W hs hB' hv⟩
 have HEN : Shh (∀ W B u, Sl W B u (dkEk dk) → B ≤ W.heap.size → KVars W → Calls Tryd.prog 26 #[u, .agg (Lib.byteCells (dcM dk ct)).toArray, .agg (Lib.byteCells (dcR dk ct)).toArray] W (OwnIs W (dcAgain dk ct))) := ⟨fun W B u hs hB' hv => (encrypted_any (dkEk dk) (dkEk_length dk hl) (dcM dk ct) (decE_length _ _) _ (dhR_length _ _) B u W hs hB' hv).mono fun e w' h => h.1 hall⟩
 have HSK : Shh (∀ W B' u, PartsO W B' B' u [dk.drop 2368, ct] → B' ≤ W.heap.size → KVars W → Calls Tryd.prog 32 #[.int .i64 256, .int .i64 32, u] W (ShakeIs W 32 (dcRej dk ct))) := ⟨fun W B' u hp hB hv => by
  have h := shake_ok256 32 (by decide) [dk.drop 2368, ct] (by simp) B' u W hp hB hv
  rw [show [dk.drop 2368, ct].flatten = dk.drop 2368 ++ ct by simp] at h
  exact h⟩
 obtain ⟨r, hr⟩ : ∃ r, r = (dcAgain dk ct == ct) := ⟨_, rfl⟩
 have HSM : Shh (∀ W B1 B2 u, Sl W B1 u (dcAgain dk ct) → Sl W B2 v2 ct → Calls Tryd.prog 34 #[u, v2] W (HereIs W (.bool r))) := ⟨fun W B1 B2 u h1 h2 => by
  rw [hr]
  exact same_any B1 B2 u v2 (dcAgain dk ct) ct W h1 h2 (by rw [HML.out.2.2.2.1]; decide) (by omega)⟩
 have hfin : chosen r (dcK dk ct) (dcRej dk ct) = dcF dk ct := by
  unfold chosen dcF
  rw [if_pos (HML.out.2.1.trans HML.out.2.2.2.2.1.symm), hr]
  by_cases e : dcAgain dk ct = ct
  ·rw [if_pos e, if_pos (by simpa using e)]
  ·rw [if_neg e, if_neg (by simpa using e)]
 have HCH : Shh (∀ W B1 B2 u u2, Sl W B1 u (dcK dk ct) → Sl W B2 u2 (dcRej dk ct) → B1 ≤ W.heap.size → B2 ≤ W.heap.size → Calls Tryd.prog 33 #[.bool r, u, u2] W (PutIs W 0 (dcF dk ct))) := ⟨fun W B1 B2 u u2 h1 h2 h3 h4 => by
  have h := choose_any r B1 B2 u u2 (dcK dk ct) (dcRej dk ct) W h1 h2 h3 h4 (by rw [HML.out.2.1]; decide) (by rw [HML.out.2.2.2.2.1]; decide)
  rw [hfin, show pairE (dcK dk ct) (dcRej dk ct) = 0 from if_pos (HML.out.2.1.trans HML.out.2.2.2.2.1.symm)] at h
  exact h⟩
 have HLL : Shh ((ct.length : Int) = 1088 ∧ 1152 ≤ dk.length ∧ 2336 ≤ dk.length ∧ 2368 ≤ dk.length) := ⟨by omega, by omega, by omega, by omega⟩
 obtain ⟨dz, HDZ⟩ : ∃ dz, Shh (dz = dk.drop 2368) := ⟨_, ⟨rfl⟩⟩
 rw [← HDZ.out] at HSK
 clear hr hfin hall hh
 generalize dcF dk ct = fin at *
 generalize dcAgain dk ct = again at *
 generalize dcRej dk ct = rej at *
 generalize dcK dk ct = kk at *
 generalize dcR dk ct = rr at *
 generalize dcM dk ct = mm at *
 generalize hN : w.heap.size = N at *
 have hN0 := Shh.mk hN
 have HS0 : Shh (Sl w N v dk ∧ Sl w N v2 ct ∧ KVars w ∧ 0 < N) := ⟨hs.more hBB, hs2.more hB2, hv, hpos⟩
 obtain ⟨A, c, rfl, hcc, _⟩ := hs.form
 obtain ⟨A2, c2, rfl, _, _⟩ := hs2.form
 have HCC : Shh (dk.length ≤ c) := ⟨hcc⟩
 have cutOf : ∀ i j : Nat, i ≤ j → j ≤ dk.length → ∃ v, Shh ((∀ w, (Instr.sliceAt 23 (.slice A dk.length c) (some (.int .i64 (i : Int))) (some (.int .i64 (j : Int))) none).run Tryd.prog w = .ok v w) ∧ ∀ W, Sl W N (.slice A dk.length c) dk → Sl W N v ((dk.take j).drop i)) := fun i j hij hj => ⟨sliced A i j c 1, ⟨fun w => run_cutLH A dk.length c i j hij (by omega) w, fun W h => h.cut i j hij hj (by omega)⟩⟩
 obtain ⟨VH, HVH⟩ := cutOf 2336 2368 (by decide) HLL.out.2.2.2
 obtain ⟨VE, HVE⟩ := cutOf 1152 2336 (by decide) HLL.out.2.2.1
 clear cutOf hs hBB hs2 hB2 hv hpos hl hcc hct hN HCC
 go_enter_defers Tryd.func9, Tryd.ntmps9
 go_wp2_with (refine wl_zero32 4 rfl rfl rfl ?_)
 intro N1 w1 hN1 r1 b1
 simp only [Act.put, arr9, hd9, tl9]
 obtain rfl : N = N1 := hN0.out.symm.trans hN1.out.symm
 have FA : Shh (Row w1 N 22 (Lib.byteCells z32) ∧ Sl w1 (N) (.slice A dk.length c) (dk) ∧ Sl w1 (N) (.slice A2 ct.length c2) (ct) ∧ KVars w1 ∧ 0 < N ∧ Below N w w1) := by
  obtain ⟨h1, h2, h3, h4⟩ := HS0.out
  rw [hN0.out] at b1
  exact ⟨r1, h1.below b1, h2.below b1, h3.step (by rw [hN0.out]; exact b1), h4, b1⟩
 clear r1 b1 hN1 HS0
 go_wp2_with (refine wl_zeroE 5 rfl rfl rfl ?_)
 intro G5 w12 hG5 r13 b11
 simp only [Act.put, arr9, hd9, tl9]
 have FB : Shh (Row w12 N 22 (Lib.byteCells z32) ∧ Sl w12 (N) (.slice A dk.length c) (dk) ∧ Sl w12 (N) (.slice A2 ct.length c2) (ct) ∧ KVars w12 ∧ 0 < N ∧ Below N w w12 ∧ Row w12 G5 24 ([.int .i64 0]) ∧ N < G5) := by
  obtain ⟨h0, h1, h2, h3, h4, h5⟩ := FA.out
  have := h0.lt
  have := b11.size
  have := hG5.out
  exact ⟨h0.go b11, h1.below (b11.mono (by omega)), h2.below (b11.mono (by omega)), h3.step b11, h4, h5.trans (b11.mono (by omega)), r13, (by omega)⟩
 clear b11 FA r13 hG5
 go_wp2_with (go_at_call 28; refine (HCK.out _ N FB.out.2.1 (Nat.le_of_lt (FB.out.1).lt) FB.out.2.2.2.1).mono ?_)
 rintro e w3 ⟨rfl, b3⟩
 have FC : Shh (Row w3 N 22 (Lib.byteCells z32) ∧ Sl w3 (N) (.slice A dk.length c) (dk) ∧ Sl w3 (N) (.slice A2 ct.length c2) (ct) ∧ KVars w3 ∧ 0 < N ∧ Below N w w3 ∧ Row w3 G5 24 ([.int .i64 0]) ∧ N < G5) := by
  obtain ⟨h0, h1, h2, h3, h4, h5, h6, h7⟩ := FB.out
  have := h0.lt
  have := h6.lt
  have := b3.size
  exact ⟨h0.go b3, h1.below (b3.mono (by omega)), h2.below (b3.mono (by omega)), h3.step b3, h4, h5.trans (b3.mono (by omega)), h6.go b3, h7⟩
 clear b3 FB HCK
 go_wp2_with (first | refine wl_at 16 rfl (.bool true) rfl (eqi_yes (i := ct.length) HLL.out.1 rfl rfl) ?_ | (go_at_call 29; refine (demand_yes 142 w3).mono ?_))
 rintro e w4 ⟨rfl, rfl⟩
 go_wp2_with (refine wpList_slice_to rfl (.tmp 18) (.const (.int .i64 1152)) rfl N _ rfl dk FC.out.2.1 1152 rfl HLL.out.2.1 ?_)
 intro v1 hv1 _
 have HV := Shh.mk hv1
 clear hv1
 go_wp2_with (go_at_call 30; refine (HDC.out _ N N _ HV.out (Nat.le_of_lt (FC.out.1).lt) FC.out.2.2.1 (Nat.le_of_lt (FC.out.1).lt)).mono ?_)
 rintro e w5 ⟨rfl, b5⟩
 have FD : Shh (Row w5 N 22 (Lib.byteCells z32) ∧ Sl w5 (N) (.slice A dk.length c) (dk) ∧ Sl w5 (N) (.slice A2 ct.length c2) (ct) ∧ KVars w5 ∧ 0 < N ∧ Below N w w5 ∧ Row w5 G5 24 ([.int .i64 0]) ∧ N < G5) := by
  obtain ⟨h0, h1, h2, h3, h4, h5, h6, h7⟩ := FC.out
  have := h0.lt
  have := h6.lt
  have := b5.size
  exact ⟨h0.go b5, h1.below (b5.mono (by omega)), h2.below (b5.mono (by omega)), h3.step b5, h4, h5.trans (b5.mono (by omega)), h6.go b5, h7⟩
 clear b5 FC HDC HV
 go_wp2_with (refine wl_new32 6 mm HML.out.1 rfl rfl rfl rfl rfl rfl rfl rfl ?_)
 intro G6 w15 hG6 r16 b14
 simp only [Act.put, arr9, hd9, tl9]
 have FE : Shh (Row w15 N 22 (Lib.byteCells z32) ∧ Sl w15 (N) (.slice A dk.length c) (dk) ∧ Sl w15 (N) (.slice A2 ct.length c2) (ct) ∧ KVars w15 ∧ 0 < N ∧ Below N w w15 ∧ Row w15 G5 24 ([.int .i64 0]) ∧ N < G5 ∧ Row w15 G6 22 (Lib.byteCells mm) ∧ G5 < G6) := by
  obtain ⟨h0, h1, h2, h3, h4, h5, h6, h7⟩ := FD.out
  have := h0.lt
  have := h6.lt
  have := b14.size
  have := hG6.out
  exact ⟨h0.go b14, h1.below (b14.mono (by omega)), h2.below (b14.mono (by omega)), h3.step b14, h4, h5.trans (b14.mono (by omega)), h6.go b14, h7, r16, (by omega)⟩
 clear b14 FD r16 hG6
 go_wp2
 refine wp_region_held_drew (S := fun w' => Row w' G6 22 (Lib.byteCells mm)) (by kernel_rfl) FE.out.2.2.2.2.2.2.2.2.1.drew (fun hS => ?_)
 clear hS
 obtain ⟨X17, hX17⟩ : ∃ V, V = World.drew w15 := ⟨_, rfl⟩
 rw [← hX17]
 have FF : Shh (Row X17 N 22 (Lib.byteCells z32) ∧ Sl X17 (N) (.slice A dk.length c) (dk) ∧ Sl X17 (N) (.slice A2 ct.length c2) (ct) ∧ KVars X17 ∧ 0 < N ∧ Below N w X17 ∧ Row X17 G5 24 ([.int .i64 0]) ∧ N < G5 ∧ Row X17 G6 22 (Lib.byteCells mm) ∧ G5 < G6) := by
  obtain ⟨h0, h1, h2, h3, h4, h5, h6, h7, h8, h9⟩ := FE.out
  rw [hX17]
  exact ⟨h0.drew, h1.drew, h2.drew, h3.drew, h4, h5.drew, h6.drew, h7, h8.drew, h9⟩
 clear hX17 FE
 refine share (T := ?T1) (fun hT => ?gg1) ?tt1
 case gg1 =>
  have FG : Shh (Below X17.heap.size X17 X17) := ⟨Below.refl _ _⟩
  refine held_load 0 22 (.tmp 6) (some 23) (by kernel_rfl) (by rfl) (by kernel_rfl) (G6) 0 (by kernel_rfl) (Lib.byteCells mm) _ (fun w h => h.range) Tryd.underlying22 rfl (size_a32 HML.out.1) (fun _ _ _ _ h => panic_put (put_de (d := 23) (by decide)) h) (Row.go FF.out.2.2.2.2.2.2.2.2.1 FG.out) ?_
  simp only [Act.put, arr9, hd9, tl9]
  refine hdv0 1 24 (.slice A dk.length c) (by rfl) (Row.go FF.out.2.2.2.2.2.2.2.2.1 FG.out) ?_ (hQ := fun _ _ _ _ h => panic_put (put_de (d := 24) (by decide)) h)
  refine hdv 2 25 (VH) (by rfl) (fun w hS => run_slice_op2 (by first | exact ⟨rfl, rfl, rfl⟩ | (refine ⟨?_, ?_, ?_⟩ <;> kernel_rfl)) (HVH.out.1 w)) (Row.go FF.out.2.2.2.2.2.2.2.2.1 FG.out) ?_ (hQ := fun _ _ _ _ h => panic_put (put_de (d := 25) (by decide)) h)
  refine held_three 3 7 8 (by kernel_rfl) ?_ ?_ ?_
  ·refine step_call 3 _ _ (some 26) 25 #[.agg (Lib.byteCells mm).toArray, VH] (by rfl) (by kernel_rfl) (by first | kernel_rfl | go_simp) ?_
   refine (HDE.out X17 N _ (HVH.out.2 _ (FF.out.2.1.below (FG.out.mono (by have := (FF.out.1).lt; omega)))) (Nat.le_of_lt ((Row.go FF.out.1 FG.out)).lt) (FF.out.2.2.2.1.step FG.out)).mono ?_
   rintro e w19 ⟨rfl, b18⟩
   have FH : Shh (Below X17.heap.size X17 w19) := by
    have h0 := FG.out
    have := b18.size
    have := h0.size
    exact ⟨Below.chain h0 b18⟩
   clear b18 FG
   refine ⟨_, rfl, (Row.go FF.out.2.2.2.2.2.2.2.2.1 FH.out), ?_⟩
   simp only [Act.put, arr9, hd9, tl9]
   refine hdv0 4 22 (.tuple #[.agg (Lib.byteCells kk).toArray, .agg (Lib.byteCells rr).toArray]) (by rfl) (Row.go FF.out.2.2.2.2.2.2.2.2.1 FH.out) ?_ (hQ := fun _ _ _ _ h => panic_put (put_de (d := 22) (by decide)) h)
   refine hdv0 5 27 (.agg (Lib.byteCells kk).toArray) (by rfl) (Row.go FF.out.2.2.2.2.2.2.2.2.1 FH.out) ?_ (hQ := fun _ _ _ _ h => panic_put (put_de (d := 27) (by decide)) h)
   refine hdv0 6 28 (.agg (Lib.byteCells rr).toArray) (by rfl) (Row.go FF.out.2.2.2.2.2.2.2.2.1 FH.out) ?_ (hQ := fun _ _ _ _ h => panic_put (put_de (d := 28) (by decide)) h)
   refine held_two 7 8 (by kernel_rfl) ?_ ?_
   ·refine step_zero32 7 7 (by rfl) (by kernel_rfl) ?_
    intro G7 w21 hG7 r22 b20
    have FI : Shh (Below X17.heap.size X17 w21 ∧ Row w21 G7 22 (Lib.byteCells z32) ∧ X17.heap.size ≤ G7 ∧ X17.heap.size ≤ G7) := by
     have h0 := FH.out
     have := b20.size
     have := h0.size
     have := hG7.out
     exact ⟨Below.chain h0 b20, r22, (by omega), (by omega)⟩
    clear b20 FH r22 hG7
    refine ⟨(Row.go FF.out.2.2.2.2.2.2.2.2.1 FI.out.1), ?_⟩
    simp only [Act.put, arr9, hd9, tl9]
    refine held_one 8 (by kernel_rfl) ?_
    refine step_zero32 8 8 (by rfl) (by kernel_rfl) ?_
    intro G8 w24 hG8 r25 b23
    have FJ : Shh (Below X17.heap.size X17 w24 ∧ Row w24 G7 22 (Lib.byteCells z32) ∧ X17.heap.size ≤ G7 ∧ X17.heap.size ≤ G7 ∧ Row w24 G8 22 (Lib.byteCells z32) ∧ X17.heap.size ≤ G8 ∧ ¬ G7 = G8) := by
     obtain ⟨h0, h1, h2, h3⟩ := FI.out
     have := h1.lt
     have := b23.size
     have := h0.size
     have := hG8.out
     exact ⟨Below.chain h0 b23, h1.go b23, h2, h3, r25, (by omega), (by omega)⟩
    clear b23 FI r25 hG8
    refine ⟨(Row.go FF.out.2.2.2.2.2.2.2.2.1 FJ.out.1), ?_⟩
    simp only [Act.put, arr9, hd9, tl9]
    refine held_one 9 (by kernel_rfl) ?_
    refine step_storeRow 9 22 (.tmp 7) (.tmp 27) (by rfl) (by kernel_rfl) G7 rfl (Lib.byteCells kk) rfl 22 (Lib.byteCells z32) (FJ.out.2.1) (size_a32 HML.out.2.1) (by rw [Lib.byteCells_length, Lib.byteCells_length, HML.out.2.1, z32_length]) (cell_oneCell _) ?_
    intro w27 r28 bt26 zbt26
    have FK : Shh (Below X17.heap.size X17 w27 ∧ Row w27 G7 22 (Lib.byteCells kk) ∧ X17.heap.size ≤ G7 ∧ X17.heap.size ≤ G7 ∧ Row w27 G8 22 (Lib.byteCells z32) ∧ X17.heap.size ≤ G8 ∧ ¬ G7 = G8) := by
     obtain ⟨h0, h1, h2, h3, h4, h5, h6⟩ := FJ.out
     have := h1.lt
     have := h4.lt
     have := h0.size
     have hb := bt26.under (Nat.le_of_lt h1.lt) (Nat.le_refl _)
     have := hb.size
     exact ⟨h0.trans (bt26.under (by omega) (by omega)), r28, h2, h3, bt26.row h4 h4.lt (by omega), h5, h6⟩
    clear bt26 FJ r28 zbt26
    refine ⟨(Row.go FF.out.2.2.2.2.2.2.2.2.1 FK.out.1), ?_⟩
    refine held_one 10 (by kernel_rfl) ?_
    refine step_storeRow 10 22 (.tmp 8) (.tmp 28) (by rfl) (by kernel_rfl) G8 rfl (Lib.byteCells rr) rfl 22 (Lib.byteCells z32) (FK.out.2.2.2.2.1) (size_a32 HML.out.2.2.1) (by rw [Lib.byteCells_length, Lib.byteCells_length, HML.out.2.2.1, z32_length]) (cell_oneCell _) ?_
    intro w30 r31 bt29 zbt29
    have FL : Shh (Below X17.heap.size X17 w30 ∧ Row w30 G7 22 (Lib.byteCells kk) ∧ X17.heap.size ≤ G7 ∧ X17.heap.size ≤ G7 ∧ Row w30 G8 22 (Lib.byteCells rr) ∧ X17.heap.size ≤ G8 ∧ ¬ G7 = G8) := by
     obtain ⟨h0, h1, h2, h3, h4, h5, h6⟩ := FK.out
     have := h1.lt
     have := h4.lt
     have := h0.size
     have hb := bt29.under (Nat.le_of_lt h4.lt) (Nat.le_refl _)
     have := hb.size
     exact ⟨h0.trans (bt29.under (by omega) (by omega)), bt29.row h1 h1.lt (by omega), h2, h3, r31, h5, h6⟩
    clear bt29 FK r31 zbt29
    refine ⟨(Row.go FF.out.2.2.2.2.2.2.2.2.1 FL.out.1), ?_⟩
    refine wpAnyH_done (by kernel_rfl) ?_ _
    have HZ : Shh (Row w30 N 22 (Lib.byteCells z32) ∧ Sl w30 (N) (.slice A dk.length c) (dk) ∧ Sl w30 (N) (.slice A2 ct.length c2) (ct) ∧ KVars w30 ∧ 0 < N ∧ Below N w w30 ∧ Row w30 G5 24 ([.int .i64 0]) ∧ N < G5 ∧ Row w30 G6 22 (Lib.byteCells mm) ∧ G5 < G6 ∧ Row w30 G7 22 (Lib.byteCells kk) ∧ Row w30 G8 22 (Lib.byteCells rr) ∧ G6 < G7 ∧ G6 < G8) := by
     obtain ⟨h0, h1, h2, h3, h4, h5, h6, h7, h8, h9⟩ := FF.out
     obtain ⟨d0, d1, d2, d3, d4, d5, d6⟩ := FL.out
     have := h0.lt
     have := h6.lt
     have := h8.lt
     have := d1.lt
     have := d4.lt
     have := d0.size
     exact ⟨h0.go d0, h1.below (d0.mono (by omega)), h2.below (d0.mono (by omega)), h3.step d0, h4, h5.trans (d0.mono (by omega)), h6.go d0, h7, h8.go d0, h9, d1, d4, (by omega), (by omega)⟩
    clear FL
    revert HZ
    revert w30
    revert G8
    revert G7
    exact hT.out
   ·refine step_zero32 8 8 (by rfl) (by kernel_rfl) ?_
    intro G8 w21 hG8 r22 b20
    have FI : Shh (Below X17.heap.size X17 w21 ∧ Row w21 G8 22 (Lib.byteCells z32) ∧ X17.heap.size ≤ G8 ∧ X17.heap.size ≤ G8) := by
     have h0 := FH.out
     have := b20.size
     have := h0.size
     have := hG8.out
     exact ⟨Below.chain h0 b20, r22, (by omega), (by omega)⟩
    clear b20 FH r22 hG8
    refine ⟨(Row.go FF.out.2.2.2.2.2.2.2.2.1 FI.out.1), ?_⟩
    simp only [Act.put, arr9, hd9, tl9]
    refine held_one 7 (by kernel_rfl) ?_
    refine step_zero32 7 7 (by rfl) (by kernel_rfl) ?_
    intro G7 w24 hG7 r25 b23
    have FJ : Shh (Below X17.heap.size X17 w24 ∧ Row w24 G8 22 (Lib.byteCells z32) ∧ X17.heap.size ≤ G8 ∧ X17.heap.size ≤ G8 ∧ Row w24 G7 22 (Lib.byteCells z32) ∧ X17.heap.size ≤ G7 ∧ ¬ G7 = G8) := by
     obtain ⟨h0, h1, h2, h3⟩ := FI.out
     have := h1.lt
     have := b23.size
     have := h0.size
     have := hG7.out
     exact ⟨Below.chain h0 b23, h1.go b23, h2, h3, r25, (by omega), (by omega)⟩
    clear b23 FI r25 hG7
    refine ⟨(Row.go FF.out.2.2.2.2.2.2.2.2.1 FJ.out.1), ?_⟩
    simp only [Act.put, arr9, hd9, tl9]
    refine held_one 9 (by kernel_rfl) ?_
    refine step_storeRow 9 22 (.tmp 7) (.tmp 27) (by rfl) (by kernel_rfl) G7 rfl (Lib.byteCells kk) rfl 22 (Lib.byteCells z32) (FJ.out.2.2.2.2.1) (size_a32 HML.out.2.1) (by rw [Lib.byteCells_length, Lib.byteCells_length, HML.out.2.1, z32_length]) (cell_oneCell _) ?_
    intro w27 r28 bt26 zbt26
    have FK : Shh (Below X17.heap.size X17 w27 ∧ Row w27 G8 22 (Lib.byteCells z32) ∧ X17.heap.size ≤ G8 ∧ X17.heap.size ≤ G8 ∧ Row w27 G7 22 (Lib.byteCells kk) ∧ X17.heap.size ≤ G7 ∧ ¬ G7 = G8) := by
     obtain ⟨h0, h1, h2, h3, h4, h5, h6⟩ := FJ.out
     have := h1.lt
     have := h4.lt
     have := h0.size
     have hb := bt26.under (Nat.le_of_lt h4.lt) (Nat.le_refl _)
     have := hb.size
     exact ⟨h0.trans (bt26.under (by omega) (by omega)), bt26.row h1 h1.lt (by omega), h2, h3, r28, h5, h6⟩
    clear bt26 FJ r28 zbt26
    refine ⟨(Row.go FF.out.2.2.2.2.2.2.2.2.1 FK.out.1), ?_⟩
    refine held_one 10 (by kernel_rfl) ?_
    refine step_storeRow 10 22 (.tmp 8) (.tmp 28) (by rfl) (by kernel_rfl) G8 rfl (Lib.byteCells rr) rfl 22 (Lib.byteCells z32) (FK.out.2.1) (size_a32 HML.out.2.2.1) (by rw [Lib.byteCells_length, Lib.byteCells_length, HML.out.2.2.1, z32_length]) (cell_oneCell _) ?_
    intro w30 r31 bt29 zbt29
    have FL : Shh (Below X17.heap.size X17 w30 ∧ Row w30 G8 22 (Lib.byteCells rr) ∧ X17.heap.size ≤ G8 ∧ X17.heap.size ≤ G8 ∧ Row w30 G7 22 (Lib.byteCells kk) ∧ X17.heap.size ≤ G7 ∧ ¬ G7 = G8) := by
     obtain ⟨h0, h1, h2, h3, h4, h5, h6⟩ := FK.out
     have := h1.lt
     have := h4.lt
     have := h0.size
     have hb := bt29.under (Nat.le_of_lt h1.lt) (Nat.le_refl _)
     have := hb.size
     exact ⟨h0.trans (bt29.under (by omega) (by omega)), r31, h2, h3, bt29.row h4 h4.lt (by omega), h5, h6⟩
    clear bt29 FK r31 zbt29
    refine ⟨(Row.go FF.out.2.2.2.2.2.2.2.2.1 FL.out.1), ?_⟩
    refine wpAnyH_done (by kernel_rfl) ?_ _
    have HZ : Shh (Row w30 N 22 (Lib.byteCells z32) ∧ Sl w30 (N) (.slice A dk.length c) (dk) ∧ Sl w30 (N) (.slice A2 ct.length c2) (ct) ∧ KVars w30 ∧ 0 < N ∧ Below N w w30 ∧ Row w30 G5 24 ([.int .i64 0]) ∧ N < G5 ∧ Row w30 G6 22 (Lib.byteCells mm) ∧ G5 < G6 ∧ Row w30 G7 22 (Lib.byteCells kk) ∧ Row w30 G8 22 (Lib.byteCells rr) ∧ G6 < G7 ∧ G6 < G8) := by
     obtain ⟨h0, h1, h2, h3, h4, h5, h6, h7, h8, h9⟩ := FF.out
     obtain ⟨d0, d1, d2, d3, d4, d5, d6⟩ := FL.out
     have := h0.lt
     have := h6.lt
     have := h8.lt
     have := d1.lt
     have := d4.lt
     have := d0.size
     exact ⟨h0.go d0, h1.below (d0.mono (by omega)), h2.below (d0.mono (by omega)), h3.step d0, h4, h5.trans (d0.mono (by omega)), h6.go d0, h7, h8.go d0, h9, d4, d1, (by omega), (by omega)⟩
    clear FL
    revert HZ
    revert w30
    revert G8
    revert G7
    exact hT.out
  ·refine step_zero32 7 7 (by rfl) (by kernel_rfl) ?_
   intro G7 w19 hG7 r20 b18
   have FH : Shh (Below X17.heap.size X17 w19 ∧ Row w19 G7 22 (Lib.byteCells z32) ∧ X17.heap.size ≤ G7 ∧ X17.heap.size ≤ G7) := by
    have h0 := FG.out
    have := b18.size
    have := h0.size
    have := hG7.out
    exact ⟨Below.chain h0 b18, r20, (by omega), (by omega)⟩
   clear b18 FG r20 hG7
   refine ⟨(Row.go FF.out.2.2.2.2.2.2.2.2.1 FH.out.1), ?_⟩
   simp only [Act.put, arr9, hd9, tl9]
   refine held_two 3 8 (by kernel_rfl) ?_ ?_
   ·refine step_call 3 _ _ (some 26) 25 #[.agg (Lib.byteCells mm).toArray, VH] (by rfl) (by kernel_rfl) (by first | kernel_rfl | go_simp) ?_
    refine (HDE.out w19 N _ (HVH.out.2 _ (FF.out.2.1.below (FH.out.1.mono (by have := (FF.out.1).lt; omega)))) (Nat.le_of_lt ((Row.go FF.out.1 FH.out.1)).lt) (FF.out.2.2.2.1.step FH.out.1)).mono ?_
    rintro e w22 ⟨rfl, b21⟩
    have FI : Shh (Below X17.heap.size X17 w22 ∧ Row w22 G7 22 (Lib.byteCells z32) ∧ X17.heap.size ≤ G7 ∧ X17.heap.size ≤ G7) := by
     obtain ⟨h0, h1, h2, h3⟩ := FH.out
     have := h1.lt
     have := b21.size
     have := h0.size
     exact ⟨Below.chain h0 b21, h1.go b21, h2, h3⟩
    clear b21 FH
    refine ⟨_, rfl, (Row.go FF.out.2.2.2.2.2.2.2.2.1 FI.out.1), ?_⟩
    simp only [Act.put, arr9, hd9, tl9]
    refine hdv0 4 22 (.tuple #[.agg (Lib.byteCells kk).toArray, .agg (Lib.byteCells rr).toArray]) (by rfl) (Row.go FF.out.2.2.2.2.2.2.2.2.1 FI.out.1) ?_ (hQ := fun _ _ _ _ h => panic_put (put_de (d := 22) (by decide)) h)
    refine hdv0 5 27 (.agg (Lib.byteCells kk).toArray) (by rfl) (Row.go FF.out.2.2.2.2.2.2.2.2.1 FI.out.1) ?_ (hQ := fun _ _ _ _ h => panic_put (put_de (d := 27) (by decide)) h)
    refine hdv0 6 28 (.agg (Lib.byteCells rr).toArray) (by rfl) (Row.go FF.out.2.2.2.2.2.2.2.2.1 FI.out.1) ?_ (hQ := fun _ _ _ _ h => panic_put (put_de (d := 28) (by decide)) h)
    refine held_one 8 (by kernel_rfl) ?_
    refine step_zero32 8 8 (by rfl) (by kernel_rfl) ?_
    intro G8 w24 hG8 r25 b23
    have FJ : Shh (Below X17.heap.size X17 w24 ∧ Row w24 G7 22 (Lib.byteCells z32) ∧ X17.heap.size ≤ G7 ∧ X17.heap.size ≤ G7 ∧ Row w24 G8 22 (Lib.byteCells z32) ∧ X17.heap.size ≤ G8 ∧ ¬ G7 = G8) := by
     obtain ⟨h0, h1, h2, h3⟩ := FI.out
     have := h1.lt
     have := b23.size
     have := h0.size
     have := hG8.out
     exact ⟨Below.chain h0 b23, h1.go b23, h2, h3, r25, (by omega), (by omega)⟩
    clear b23 FI r25 hG8
    refine ⟨(Row.go FF.out.2.2.2.2.2.2.2.2.1 FJ.out.1), ?_⟩
    simp only [Act.put, arr9, hd9, tl9]
    refine held_one 9 (by kernel_rfl) ?_
    refine step_storeRow 9 22 (.tmp 7) (.tmp 27) (by rfl) (by kernel_rfl) G7 rfl (Lib.byteCells kk) rfl 22 (Lib.byteCells z32) (FJ.out.2.1) (size_a32 HML.out.2.1) (by rw [Lib.byteCells_length, Lib.byteCells_length, HML.out.2.1, z32_length]) (cell_oneCell _) ?_
    intro w27 r28 bt26 zbt26
    have FK : Shh (Below X17.heap.size X17 w27 ∧ Row w27 G7 22 (Lib.byteCells kk) ∧ X17.heap.size ≤ G7 ∧ X17.heap.size ≤ G7 ∧ Row w27 G8 22 (Lib.byteCells z32) ∧ X17.heap.size ≤ G8 ∧ ¬ G7 = G8) := by
     obtain ⟨h0, h1, h2, h3, h4, h5, h6⟩ := FJ.out
     have := h1.lt
     have := h4.lt
     have := h0.size
     have hb := bt26.under (Nat.le_of_lt h1.lt) (Nat.le_refl _)
     have := hb.size
     exact ⟨h0.trans (bt26.under (by omega) (by omega)), r28, h2, h3, bt26.row h4 h4.lt (by omega), h5, h6⟩
    clear bt26 FJ r28 zbt26
    refine ⟨(Row.go FF.out.2.2.2.2.2.2.2.2.1 FK.out.1), ?_⟩
    refine held_one 10 (by kernel_rfl) ?_
    refine step_storeRow 10 22 (.tmp 8) (.tmp 28) (by rfl) (by kernel_rfl) G8 rfl (Lib.byteCells rr) rfl 22 (Lib.byteCells z32) (FK.out.2.2.2.2.1) (size_a32 HML.out.2.2.1) (by rw [Lib.byteCells_length, Lib.byteCells_length, HML.out.2.2.1, z32_length]) (cell_oneCell _) ?_
    intro w30 r31 bt29 zbt29
    have FL : Shh (Below X17.heap.size X17 w30 ∧ Row w30 G7 22 (Lib.byteCells kk) ∧ X17.heap.size ≤ G7 ∧ X17.heap.size ≤ G7 ∧ Row w30 G8 22 (Lib.byteCells rr) ∧ X17.heap.size ≤ G8 ∧ ¬ G7 = G8) := by
     obtain ⟨h0, h1, h2, h3, h4, h5, h6⟩ := FK.out
     have := h1.lt
     have := h4.lt
     have := h0.size
     have hb := bt29.under (Nat.le_of_lt h4.lt) (Nat.le_refl _)
     have := hb.size
     exact ⟨h0.trans (bt29.under (by omega) (by omega)), bt29.row h1 h1.lt (by omega), h2, h3, r31, h5, h6⟩
    clear bt29 FK r31 zbt29
    refine ⟨(Row.go FF.out.2.2.2.2.2.2.2.2.1 FL.out.1), ?_⟩
    refine wpAnyH_done (by kernel_rfl) ?_ _
    have HZ : Shh (Row w30 N 22 (Lib.byteCells z32) ∧ Sl w30 (N) (.slice A dk.length c) (dk) ∧ Sl w30 (N) (.slice A2 ct.length c2) (ct) ∧ KVars w30 ∧ 0 < N ∧ Below N w w30 ∧ Row w30 G5 24 ([.int .i64 0]) ∧ N < G5 ∧ Row w30 G6 22 (Lib.byteCells mm) ∧ G5 < G6 ∧ Row w30 G7 22 (Lib.byteCells kk) ∧ Row w30 G8 22 (Lib.byteCells rr) ∧ G6 < G7 ∧ G6 < G8) := by
     obtain ⟨h0, h1, h2, h3, h4, h5, h6, h7, h8, h9⟩ := FF.out
     obtain ⟨d0, d1, d2, d3, d4, d5, d6⟩ := FL.out
     have := h0.lt
     have := h6.lt
     have := h8.lt
     have := d1.lt
     have := d4.lt
     have := d0.size
     exact ⟨h0.go d0, h1.below (d0.mono (by omega)), h2.below (d0.mono (by omega)), h3.step d0, h4, h5.trans (d0.mono (by omega)), h6.go d0, h7, h8.go d0, h9, d1, d4, (by omega), (by omega)⟩
    clear FL
    revert HZ
    revert w30
    revert G8
    revert G7
    exact hT.out
   ·refine step_zero32 8 8 (by rfl) (by kernel_rfl) ?_
    intro G8 w22 hG8 r23 b21
    have FI : Shh (Below X17.heap.size X17 w22 ∧ Row w22 G7 22 (Lib.byteCells z32) ∧ X17.heap.size ≤ G7 ∧ X17.heap.size ≤ G7 ∧ Row w22 G8 22 (Lib.byteCells z32) ∧ X17.heap.size ≤ G8 ∧ ¬ G7 = G8) := by
     obtain ⟨h0, h1, h2, h3⟩ := FH.out
     have := h1.lt
     have := b21.size
     have := h0.size
     have := hG8.out
     exact ⟨Below.chain h0 b21, h1.go b21, h2, h3, r23, (by omega), (by omega)⟩
    clear b21 FH r23 hG8
    refine ⟨(Row.go FF.out.2.2.2.2.2.2.2.2.1 FI.out.1), ?_⟩
    simp only [Act.put, arr9, hd9, tl9]
    refine held_one 3 (by kernel_rfl) ?_
    refine step_call 3 _ _ (some 26) 25 #[.agg (Lib.byteCells mm).toArray, VH] (by rfl) (by kernel_rfl) (by first | kernel_rfl | go_simp) ?_
    refine (HDE.out w22 N _ (HVH.out.2 _ (FF.out.2.1.below (FI.out.1.mono (by have := (FF.out.1).lt; omega)))) (Nat.le_of_lt ((Row.go FF.out.1 FI.out.1)).lt) (FF.out.2.2.2.1.step FI.out.1)).mono ?_
    rintro e w25 ⟨rfl, b24⟩
    have FJ : Shh (Below X17.heap.size X17 w25 ∧ Row w25 G7 22 (Lib.byteCells z32) ∧ X17.heap.size ≤ G7 ∧ X17.heap.size ≤ G7 ∧ Row w25 G8 22 (Lib.byteCells z32) ∧ X17.heap.size ≤ G8 ∧ ¬ G7 = G8) := by
     obtain ⟨h0, h1, h2, h3, h4, h5, h6⟩ := FI.out
     have := h1.lt
     have := h4.lt
     have := b24.size
     have := h0.size
     exact ⟨Below.chain h0 b24, h1.go b24, h2, h3, h4.go b24, h5, h6⟩
    clear b24 FI
    refine ⟨_, rfl, (Row.go FF.out.2.2.2.2.2.2.2.2.1 FJ.out.1), ?_⟩
    simp only [Act.put, arr9, hd9, tl9]
    refine hdv0 4 22 (.tuple #[.agg (Lib.byteCells kk).toArray, .agg (Lib.byteCells rr).toArray]) (by rfl) (Row.go FF.out.2.2.2.2.2.2.2.2.1 FJ.out.1) ?_ (hQ := fun _ _ _ _ h => panic_put (put_de (d := 22) (by decide)) h)
    refine hdv0 5 27 (.agg (Lib.byteCells kk).toArray) (by rfl) (Row.go FF.out.2.2.2.2.2.2.2.2.1 FJ.out.1) ?_ (hQ := fun _ _ _ _ h => panic_put (put_de (d := 27) (by decide)) h)
    refine hdv0 6 28 (.agg (Lib.byteCells rr).toArray) (by rfl) (Row.go FF.out.2.2.2.2.2.2.2.2.1 FJ.out.1) ?_ (hQ := fun _ _ _ _ h => panic_put (put_de (d := 28) (by decide)) h)
    refine held_one 9 (by kernel_rfl) ?_
    refine step_storeRow 9 22 (.tmp 7) (.tmp 27) (by rfl) (by kernel_rfl) G7 rfl (Lib.byteCells kk) rfl 22 (Lib.byteCells z32) (FJ.out.2.1) (size_a32 HML.out.2.1) (by rw [Lib.byteCells_length, Lib.byteCells_length, HML.out.2.1, z32_length]) (cell_oneCell _) ?_
    intro w27 r28 bt26 zbt26
    have FK : Shh (Below X17.heap.size X17 w27 ∧ Row w27 G7 22 (Lib.byteCells kk) ∧ X17.heap.size ≤ G7 ∧ X17.heap.size ≤ G7 ∧ Row w27 G8 22 (Lib.byteCells z32) ∧ X17.heap.size ≤ G8 ∧ ¬ G7 = G8) := by
     obtain ⟨h0, h1, h2, h3, h4, h5, h6⟩ := FJ.out
     have := h1.lt
     have := h4.lt
     have := h0.size
     have hb := bt26.under (Nat.le_of_lt h1.lt) (Nat.le_refl _)
     have := hb.size
     exact ⟨h0.trans (bt26.under (by omega) (by omega)), r28, h2, h3, bt26.row h4 h4.lt (by omega), h5, h6⟩
    clear bt26 FJ r28 zbt26
    refine ⟨(Row.go FF.out.2.2.2.2.2.2.2.2.1 FK.out.1), ?_⟩
    refine held_one 10 (by kernel_rfl) ?_
    refine step_storeRow 10 22 (.tmp 8) (.tmp 28) (by rfl) (by kernel_rfl) G8 rfl (Lib.byteCells rr) rfl 22 (Lib.byteCells z32) (FK.out.2.2.2.2.1) (size_a32 HML.out.2.2.1) (by rw [Lib.byteCells_length, Lib.byteCells_length, HML.out.2.2.1, z32_length]) (cell_oneCell _) ?_
    intro w30 r31 bt29 zbt29
    have FL : Shh (Below X17.heap.size X17 w30 ∧ Row w30 G7 22 (Lib.byteCells kk) ∧ X17.heap.size ≤ G7 ∧ X17.heap.size ≤ G7 ∧ Row w30 G8 22 (Lib.byteCells rr) ∧ X17.heap.size ≤ G8 ∧ ¬ G7 = G8) := by
     obtain ⟨h0, h1, h2, h3, h4, h5, h6⟩ := FK.out
     have := h1.lt
     have := h4.lt
     have := h0.size
     have hb := bt29.under (Nat.le_of_lt h4.lt) (Nat.le_refl _)
     have := hb.size
     exact ⟨h0.trans (bt29.under (by omega) (by omega)), bt29.row h1 h1.lt (by omega), h2, h3, r31, h5, h6⟩
    clear bt29 FK r31 zbt29
    refine ⟨(Row.go FF.out.2.2.2.2.2.2.2.2.1 FL.out.1), ?_⟩
    refine wpAnyH_done (by kernel_rfl) ?_ _
    have HZ : Shh (Row w30 N 22 (Lib.byteCells z32) ∧ Sl w30 (N) (.slice A dk.length c) (dk) ∧ Sl w30 (N) (.slice A2 ct.length c2) (ct) ∧ KVars w30 ∧ 0 < N ∧ Below N w w30 ∧ Row w30 G5 24 ([.int .i64 0]) ∧ N < G5 ∧ Row w30 G6 22 (Lib.byteCells mm) ∧ G5 < G6 ∧ Row w30 G7 22 (Lib.byteCells kk) ∧ Row w30 G8 22 (Lib.byteCells rr) ∧ G6 < G7 ∧ G6 < G8) := by
     obtain ⟨h0, h1, h2, h3, h4, h5, h6, h7, h8, h9⟩ := FF.out
     obtain ⟨d0, d1, d2, d3, d4, d5, d6⟩ := FL.out
     have := h0.lt
     have := h6.lt
     have := h8.lt
     have := d1.lt
     have := d4.lt
     have := d0.size
     exact ⟨h0.go d0, h1.below (d0.mono (by omega)), h2.below (d0.mono (by omega)), h3.step d0, h4, h5.trans (d0.mono (by omega)), h6.go d0, h7, h8.go d0, h9, d1, d4, (by omega), (by omega)⟩
    clear FL
    revert HZ
    revert w30
    revert G8
    revert G7
    exact hT.out
  ·refine step_zero32 8 8 (by rfl) (by kernel_rfl) ?_
   intro G8 w19 hG8 r20 b18
   have FH : Shh (Below X17.heap.size X17 w19 ∧ Row w19 G8 22 (Lib.byteCells z32) ∧ X17.heap.size ≤ G8 ∧ X17.heap.size ≤ G8) := by
    have h0 := FG.out
    have := b18.size
    have := h0.size
    have := hG8.out
    exact ⟨Below.chain h0 b18, r20, (by omega), (by omega)⟩
   clear b18 FG r20 hG8
   refine ⟨(Row.go FF.out.2.2.2.2.2.2.2.2.1 FH.out.1), ?_⟩
   simp only [Act.put, arr9, hd9, tl9]
   refine held_two 3 7 (by kernel_rfl) ?_ ?_
   ·refine step_call 3 _ _ (some 26) 25 #[.agg (Lib.byteCells mm).toArray, VH] (by rfl) (by kernel_rfl) (by first | kernel_rfl | go_simp) ?_
    refine (HDE.out w19 N _ (HVH.out.2 _ (FF.out.2.1.below (FH.out.1.mono (by have := (FF.out.1).lt; omega)))) (Nat.le_of_lt ((Row.go FF.out.1 FH.out.1)).lt) (FF.out.2.2.2.1.step FH.out.1)).mono ?_
    rintro e w22 ⟨rfl, b21⟩
    have FI : Shh (Below X17.heap.size X17 w22 ∧ Row w22 G8 22 (Lib.byteCells z32) ∧ X17.heap.size ≤ G8 ∧ X17.heap.size ≤ G8) := by
     obtain ⟨h0, h1, h2, h3⟩ := FH.out
     have := h1.lt
     have := b21.size
     have := h0.size
     exact ⟨Below.chain h0 b21, h1.go b21, h2, h3⟩
    clear b21 FH
    refine ⟨_, rfl, (Row.go FF.out.2.2.2.2.2.2.2.2.1 FI.out.1), ?_⟩
    simp only [Act.put, arr9, hd9, tl9]
    refine hdv0 4 22 (.tuple #[.agg (Lib.byteCells kk).toArray, .agg (Lib.byteCells rr).toArray]) (by rfl) (Row.go FF.out.2.2.2.2.2.2.2.2.1 FI.out.1) ?_ (hQ := fun _ _ _ _ h => panic_put (put_de (d := 22) (by decide)) h)
    refine hdv0 5 27 (.agg (Lib.byteCells kk).toArray) (by rfl) (Row.go FF.out.2.2.2.2.2.2.2.2.1 FI.out.1) ?_ (hQ := fun _ _ _ _ h => panic_put (put_de (d := 27) (by decide)) h)
    refine hdv0 6 28 (.agg (Lib.byteCells rr).toArray) (by rfl) (Row.go FF.out.2.2.2.2.2.2.2.2.1 FI.out.1) ?_ (hQ := fun _ _ _ _ h => panic_put (put_de (d := 28) (by decide)) h)
    refine held_one 7 (by kernel_rfl) ?_
    refine step_zero32 7 7 (by rfl) (by kernel_rfl) ?_
    intro G7 w24 hG7 r25 b23
    have FJ : Shh (Below X17.heap.size X17 w24 ∧ Row w24 G8 22 (Lib.byteCells z32) ∧ X17.heap.size ≤ G8 ∧ X17.heap.size ≤ G8 ∧ Row w24 G7 22 (Lib.byteCells z32) ∧ X17.heap.size ≤ G7 ∧ ¬ G7 = G8) := by
     obtain ⟨h0, h1, h2, h3⟩ := FI.out
     have := h1.lt
     have := b23.size
     have := h0.size
     have := hG7.out
     exact ⟨Below.chain h0 b23, h1.go b23, h2, h3, r25, (by omega), (by omega)⟩
    clear b23 FI r25 hG7
    refine ⟨(Row.go FF.out.2.2.2.2.2.2.2.2.1 FJ.out.1), ?_⟩
    simp only [Act.put, arr9, hd9, tl9]
    refine held_one 9 (by kernel_rfl) ?_
    refine step_storeRow 9 22 (.tmp 7) (.tmp 27) (by rfl) (by kernel_rfl) G7 rfl (Lib.byteCells kk) rfl 22 (Lib.byteCells z32) (FJ.out.2.2.2.2.1) (size_a32 HML.out.2.1) (by rw [Lib.byteCells_length, Lib.byteCells_length, HML.out.2.1, z32_length]) (cell_oneCell _) ?_
    intro w27 r28 bt26 zbt26
    have FK : Shh (Below X17.heap.size X17 w27 ∧ Row w27 G8 22 (Lib.byteCells z32) ∧ X17.heap.size ≤ G8 ∧ X17.heap.size ≤ G8 ∧ Row w27 G7 22 (Lib.byteCells kk) ∧ X17.heap.size ≤ G7 ∧ ¬ G7 = G8) := by
     obtain ⟨h0, h1, h2, h3, h4, h5, h6⟩ := FJ.out
     have := h1.lt
     have := h4.lt
     have := h0.size
     have hb := bt26.under (Nat.le_of_lt h4.lt) (Nat.le_refl _)
     have := hb.size
     exact ⟨h0.trans (bt26.under (by omega) (by omega)), bt26.row h1 h1.lt (by omega), h2, h3, r28, h5, h6⟩
    clear bt26 FJ r28 zbt26
    refine ⟨(Row.go FF.out.2.2.2.2.2.2.2.2.1 FK.out.1), ?_⟩
    refine held_one 10 (by kernel_rfl) ?_
    refine step_storeRow 10 22 (.tmp 8) (.tmp 28) (by rfl) (by kernel_rfl) G8 rfl (Lib.byteCells rr) rfl 22 (Lib.byteCells z32) (FK.out.2.1) (size_a32 HML.out.2.2.1) (by rw [Lib.byteCells_length, Lib.byteCells_length, HML.out.2.2.1, z32_length]) (cell_oneCell _) ?_
    intro w30 r31 bt29 zbt29
    have FL : Shh (Below X17.heap.size X17 w30 ∧ Row w30 G8 22 (Lib.byteCells rr) ∧ X17.heap.size ≤ G8 ∧ X17.heap.size ≤ G8 ∧ Row w30 G7 22 (Lib.byteCells kk) ∧ X17.heap.size ≤ G7 ∧ ¬ G7 = G8) := by
     obtain ⟨h0, h1, h2, h3, h4, h5, h6⟩ := FK.out
     have := h1.lt
     have := h4.lt
     have := h0.size
     have hb := bt29.under (Nat.le_of_lt h1.lt) (Nat.le_refl _)
     have := hb.size
     exact ⟨h0.trans (bt29.under (by omega) (by omega)), r31, h2, h3, bt29.row h4 h4.lt (by omega), h5, h6⟩
    clear bt29 FK r31 zbt29
    refine ⟨(Row.go FF.out.2.2.2.2.2.2.2.2.1 FL.out.1), ?_⟩
    refine wpAnyH_done (by kernel_rfl) ?_ _
    have HZ : Shh (Row w30 N 22 (Lib.byteCells z32) ∧ Sl w30 (N) (.slice A dk.length c) (dk) ∧ Sl w30 (N) (.slice A2 ct.length c2) (ct) ∧ KVars w30 ∧ 0 < N ∧ Below N w w30 ∧ Row w30 G5 24 ([.int .i64 0]) ∧ N < G5 ∧ Row w30 G6 22 (Lib.byteCells mm) ∧ G5 < G6 ∧ Row w30 G7 22 (Lib.byteCells kk) ∧ Row w30 G8 22 (Lib.byteCells rr) ∧ G6 < G7 ∧ G6 < G8) := by
     obtain ⟨h0, h1, h2, h3, h4, h5, h6, h7, h8, h9⟩ := FF.out
     obtain ⟨d0, d1, d2, d3, d4, d5, d6⟩ := FL.out
     have := h0.lt
     have := h6.lt
     have := h8.lt
     have := d1.lt
     have := d4.lt
     have := d0.size
     exact ⟨h0.go d0, h1.below (d0.mono (by omega)), h2.below (d0.mono (by omega)), h3.step d0, h4, h5.trans (d0.mono (by omega)), h6.go d0, h7, h8.go d0, h9, d4, d1, (by omega), (by omega)⟩
    clear FL
    revert HZ
    revert w30
    revert G8
    revert G7
    exact hT.out
   ·refine step_zero32 7 7 (by rfl) (by kernel_rfl) ?_
    intro G7 w22 hG7 r23 b21
    have FI : Shh (Below X17.heap.size X17 w22 ∧ Row w22 G8 22 (Lib.byteCells z32) ∧ X17.heap.size ≤ G8 ∧ X17.heap.size ≤ G8 ∧ Row w22 G7 22 (Lib.byteCells z32) ∧ X17.heap.size ≤ G7 ∧ ¬ G7 = G8) := by
     obtain ⟨h0, h1, h2, h3⟩ := FH.out
     have := h1.lt
     have := b21.size
     have := h0.size
     have := hG7.out
     exact ⟨Below.chain h0 b21, h1.go b21, h2, h3, r23, (by omega), (by omega)⟩
    clear b21 FH r23 hG7
    refine ⟨(Row.go FF.out.2.2.2.2.2.2.2.2.1 FI.out.1), ?_⟩
    simp only [Act.put, arr9, hd9, tl9]
    refine held_one 3 (by kernel_rfl) ?_
    refine step_call 3 _ _ (some 26) 25 #[.agg (Lib.byteCells mm).toArray, VH] (by rfl) (by kernel_rfl) (by first | kernel_rfl | go_simp) ?_
    refine (HDE.out w22 N _ (HVH.out.2 _ (FF.out.2.1.below (FI.out.1.mono (by have := (FF.out.1).lt; omega)))) (Nat.le_of_lt ((Row.go FF.out.1 FI.out.1)).lt) (FF.out.2.2.2.1.step FI.out.1)).mono ?_
    rintro e w25 ⟨rfl, b24⟩
    have FJ : Shh (Below X17.heap.size X17 w25 ∧ Row w25 G8 22 (Lib.byteCells z32) ∧ X17.heap.size ≤ G8 ∧ X17.heap.size ≤ G8 ∧ Row w25 G7 22 (Lib.byteCells z32) ∧ X17.heap.size ≤ G7 ∧ ¬ G7 = G8) := by
     obtain ⟨h0, h1, h2, h3, h4, h5, h6⟩ := FI.out
     have := h1.lt
     have := h4.lt
     have := b24.size
     have := h0.size
     exact ⟨Below.chain h0 b24, h1.go b24, h2, h3, h4.go b24, h5, h6⟩
    clear b24 FI
    refine ⟨_, rfl, (Row.go FF.out.2.2.2.2.2.2.2.2.1 FJ.out.1), ?_⟩
    simp only [Act.put, arr9, hd9, tl9]
    refine hdv0 4 22 (.tuple #[.agg (Lib.byteCells kk).toArray, .agg (Lib.byteCells rr).toArray]) (by rfl) (Row.go FF.out.2.2.2.2.2.2.2.2.1 FJ.out.1) ?_ (hQ := fun _ _ _ _ h => panic_put (put_de (d := 22) (by decide)) h)
    refine hdv0 5 27 (.agg (Lib.byteCells kk).toArray) (by rfl) (Row.go FF.out.2.2.2.2.2.2.2.2.1 FJ.out.1) ?_ (hQ := fun _ _ _ _ h => panic_put (put_de (d := 27) (by decide)) h)
    refine hdv0 6 28 (.agg (Lib.byteCells rr).toArray) (by rfl) (Row.go FF.out.2.2.2.2.2.2.2.2.1 FJ.out.1) ?_ (hQ := fun _ _ _ _ h => panic_put (put_de (d := 28) (by decide)) h)
    refine held_one 9 (by kernel_rfl) ?_
    refine step_storeRow 9 22 (.tmp 7) (.tmp 27) (by rfl) (by kernel_rfl) G7 rfl (Lib.byteCells kk) rfl 22 (Lib.byteCells z32) (FJ.out.2.2.2.2.1) (size_a32 HML.out.2.1) (by rw [Lib.byteCells_length, Lib.byteCells_length, HML.out.2.1, z32_length]) (cell_oneCell _) ?_
    intro w27 r28 bt26 zbt26
    have FK : Shh (Below X17.heap.size X17 w27 ∧ Row w27 G8 22 (Lib.byteCells z32) ∧ X17.heap.size ≤ G8 ∧ X17.heap.size ≤ G8 ∧ Row w27 G7 22 (Lib.byteCells kk) ∧ X17.heap.size ≤ G7 ∧ ¬ G7 = G8) := by
     obtain ⟨h0, h1, h2, h3, h4, h5, h6⟩ := FJ.out
     have := h1.lt
     have := h4.lt
     have := h0.size
     have hb := bt26.under (Nat.le_of_lt h4.lt) (Nat.le_refl _)
     have := hb.size
     exact ⟨h0.trans (bt26.under (by omega) (by omega)), bt26.row h1 h1.lt (by omega), h2, h3, r28, h5, h6⟩
    clear bt26 FJ r28 zbt26
    refine ⟨(Row.go FF.out.2.2.2.2.2.2.2.2.1 FK.out.1), ?_⟩
    refine held_one 10 (by kernel_rfl) ?_
    refine step_storeRow 10 22 (.tmp 8) (.tmp 28) (by rfl) (by kernel_rfl) G8 rfl (Lib.byteCells rr) rfl 22 (Lib.byteCells z32) (FK.out.2.1) (size_a32 HML.out.2.2.1) (by rw [Lib.byteCells_length, Lib.byteCells_length, HML.out.2.2.1, z32_length]) (cell_oneCell _) ?_
    intro w30 r31 bt29 zbt29
    have FL : Shh (Below X17.heap.size X17 w30 ∧ Row w30 G8 22 (Lib.byteCells rr) ∧ X17.heap.size ≤ G8 ∧ X17.heap.size ≤ G8 ∧ Row w30 G7 22 (Lib.byteCells kk) ∧ X17.heap.size ≤ G7 ∧ ¬ G7 = G8) := by
     obtain ⟨h0, h1, h2, h3, h4, h5, h6⟩ := FK.out
     have := h1.lt
     have := h4.lt
     have := h0.size
     have hb := bt29.under (Nat.le_of_lt h1.lt) (Nat.le_refl _)
     have := hb.size
     exact ⟨h0.trans (bt29.under (by omega) (by omega)), r31, h2, h3, bt29.row h4 h4.lt (by omega), h5, h6⟩
    clear bt29 FK r31 zbt29
    refine ⟨(Row.go FF.out.2.2.2.2.2.2.2.2.1 FL.out.1), ?_⟩
    refine wpAnyH_done (by kernel_rfl) ?_ _
    have HZ : Shh (Row w30 N 22 (Lib.byteCells z32) ∧ Sl w30 (N) (.slice A dk.length c) (dk) ∧ Sl w30 (N) (.slice A2 ct.length c2) (ct) ∧ KVars w30 ∧ 0 < N ∧ Below N w w30 ∧ Row w30 G5 24 ([.int .i64 0]) ∧ N < G5 ∧ Row w30 G6 22 (Lib.byteCells mm) ∧ G5 < G6 ∧ Row w30 G7 22 (Lib.byteCells kk) ∧ Row w30 G8 22 (Lib.byteCells rr) ∧ G6 < G7 ∧ G6 < G8) := by
     obtain ⟨h0, h1, h2, h3, h4, h5, h6, h7, h8, h9⟩ := FF.out
     obtain ⟨d0, d1, d2, d3, d4, d5, d6⟩ := FL.out
     have := h0.lt
     have := h6.lt
     have := h8.lt
     have := d1.lt
     have := d4.lt
     have := d0.size
     exact ⟨h0.go d0, h1.below (d0.mono (by omega)), h2.below (d0.mono (by omega)), h3.step d0, h4, h5.trans (d0.mono (by omega)), h6.go d0, h7, h8.go d0, h9, d4, d1, (by omega), (by omega)⟩
    clear FL
    revert HZ
    revert w30
    revert G8
    revert G7
    exact hT.out
 case tt1 =>
  clear FF
  intro G7 G8 X5 FA
  clear HDE
  go_wp2
  refine wp_region_held_drew (S := fun w' => Row w' G6 22 (Lib.byteCells mm) ∧ Row w' G8 22 (Lib.byteCells rr)) (by kernel_rfl) ⟨FA.out.2.2.2.2.2.2.2.2.1.drew, FA.out.2.2.2.2.2.2.2.2.2.2.2.1.drew⟩ (fun hS => ?_)
  clear hS
  obtain ⟨X18, hX18⟩ : ∃ V, V = World.drew X5 := ⟨_, rfl⟩
  rw [← hX18]
  have FB : Shh (Row X18 N 22 (Lib.byteCells z32) ∧ Sl X18 (N) (.slice A dk.length c) (dk) ∧ Sl X18 (N) (.slice A2 ct.length c2) (ct) ∧ KVars X18 ∧ 0 < N ∧ Below N w X18 ∧ Row X18 G5 24 ([.int .i64 0]) ∧ N < G5 ∧ Row X18 G6 22 (Lib.byteCells mm) ∧ G5 < G6 ∧ Row X18 G7 22 (Lib.byteCells kk) ∧ Row X18 G8 22 (Lib.byteCells rr) ∧ G6 < G7 ∧ G6 < G8) := by
   obtain ⟨h0, h1, h2, h3, h4, h5, h6, h7, h8, h9, h10, h11, h12, h13⟩ := FA.out
   rw [hX18]
   exact ⟨h0.drew, h1.drew, h2.drew, h3.drew, h4, h5.drew, h6.drew, h7, h8.drew, h9, h10.drew, h11.drew, h12, h13⟩
  clear hX18 FA
  refine hdv0 0 29 (.slice A dk.length c) (by rfl) ⟨FB.out.2.2.2.2.2.2.2.2.1, FB.out.2.2.2.2.2.2.2.2.2.2.2.1⟩ ?_ (hQ := fun _ _ _ _ h => panic_put (put_de (d := 29) (by decide)) h)
  refine hdv 1 30 (VE) (by rfl) (fun w hS => run_slice_op2 (by first | exact ⟨rfl, rfl, rfl⟩ | (refine ⟨?_, ?_, ?_⟩ <;> kernel_rfl)) (HVE.out.1 w)) ⟨FB.out.2.2.2.2.2.2.2.2.1, FB.out.2.2.2.2.2.2.2.2.2.2.2.1⟩ ?_ (hQ := fun _ _ _ _ h => panic_put (put_de (d := 30) (by decide)) h)
  refine held_load 2 22 (.tmp 6) (some 31) (by kernel_rfl) (by rfl) (by kernel_rfl) (G6) 0 (by kernel_rfl) (Lib.byteCells mm) _ (fun w h => h.1.range) Tryd.underlying22 rfl (size_a32 HML.out.1) (fun _ _ _ _ h => panic_put (put_de (d := 31) (by decide)) h) ⟨FB.out.2.2.2.2.2.2.2.2.1, FB.out.2.2.2.2.2.2.2.2.2.2.2.1⟩ ?_
  simp only [Act.put, arr9, hd9, tl9]
  refine held_load 3 22 (.tmp 8) (some 32) (by kernel_rfl) (by rfl) (by kernel_rfl) (G8) 0 (by kernel_rfl) (Lib.byteCells rr) _ (fun w h => h.2.range) Tryd.underlying22 rfl (size_a32 HML.out.2.2.1) (fun _ _ _ _ h => panic_put (put_de (d := 32) (by decide)) h) ⟨FB.out.2.2.2.2.2.2.2.2.1, FB.out.2.2.2.2.2.2.2.2.2.2.2.1⟩ ?_
  simp only [Act.put, arr9, hd9, tl9]
  refine held_one 4 (by kernel_rfl) ?_
  refine step_call 4 _ _ (some 33) 26 #[VE, .agg (Lib.byteCells mm).toArray, .agg (Lib.byteCells rr).toArray] (by rfl) (by kernel_rfl) (by first | kernel_rfl | go_simp) ?_
  refine (HEN.out X18 N _ (HVE.out.2 _ FB.out.2.1) (Nat.le_of_lt (FB.out.1).lt) FB.out.2.2.2.1).mono ?_
  rintro e Y ⟨u, rfl, hu, bu⟩
  obtain ⟨gu, cu, rfl⟩ := own_some hu (by rw [HML.out.2.2.2.1]; decide)
  have FC : Shh (Row Y N 22 (Lib.byteCells z32) ∧ Sl Y (N) (.slice A dk.length c) (dk) ∧ Sl Y (N) (.slice A2 ct.length c2) (ct) ∧ KVars Y ∧ 0 < N ∧ Below N w Y ∧ Row Y G5 24 ([.int .i64 0]) ∧ N < G5 ∧ Row Y G6 22 (Lib.byteCells mm) ∧ G5 < G6 ∧ Row Y G7 22 (Lib.byteCells kk) ∧ Row Y G8 22 (Lib.byteCells rr) ∧ G6 < G7 ∧ G6 < G8 ∧ Sl Y Y.heap.size (.slice (some ⟨gu, 0, none⟩) again.length cu) (again)) := by
   obtain ⟨h0, h1, h2, h3, h4, h5, h6, h7, h8, h9, h10, h11, h12, h13⟩ := FB.out
   have := h0.lt
   have := h6.lt
   have := h8.lt
   have := h10.lt
   have := h11.lt
   have := bu.size
   exact ⟨h0.go bu, h1.below (bu.mono (by omega)), h2.below (bu.mono (by omega)), h3.step bu, h4, h5.trans (bu.mono (by omega)), h6.go bu, h7, h8.go bu, h9, h10.go bu, h11.go bu, h12, h13, Sl.of_own hu⟩
  clear bu FB hu
  refine ⟨_, rfl, ⟨FC.out.2.2.2.2.2.2.2.2.1, FC.out.2.2.2.2.2.2.2.2.2.2.2.1⟩, ?_⟩
  simp only [Act.put, arr9, hd9, tl9]
  refine hdv0 5 9 (.slice (some ⟨gu, 0, none⟩) again.length cu) (by rfl) ⟨FC.out.2.2.2.2.2.2.2.2.1, FC.out.2.2.2.2.2.2.2.2.2.2.2.1⟩ ?_ (hQ := fun _ _ _ _ h => panic_put (put_de (d := 9) (by decide)) h)
  refine wpAnyH_done (by kernel_rfl) ?_ _
  clear HEN
  go_wp2_with (refine wpList_slice_from rfl (.tmp 34) (.const (.int .i64 2368)) rfl N _ rfl dk FC.out.2.1 2368 rfl HLL.out.2.2.2 ?_)
  intro v1 hv1 _
  have HV : Shh (Sl Y Y.heap.size v1 dz) := ⟨by rw [HDZ.out]; exact hv1.more (Nat.le_of_lt (FC.out.1).lt)⟩
  clear hv1
  obtain ⟨A3, c3, rfl, _, _⟩ := HV.out.form
  go_wp2_with (go_at_call 32; refine (HSK.out _ (Y.heap.size + 1) _ (parts_two rfl HV.out ((FC.out.2.2.1).more (Nat.le_of_lt (FC.out.1).lt))) (by rw [asz]; exact Nat.le_refl _) ((FC.out.2.2.2.1).step (bel1 _ _))).mono ?_)
  rintro e w8 ⟨q, rfl, hq, hr8, b8⟩
  have b9 := Below.chain (bel1 Y _) b8
  clear b8
  have FD : Shh (Row w8 N 22 (Lib.byteCells z32) ∧ Sl w8 (N) (.slice A dk.length c) (dk) ∧ Sl w8 (N) (.slice A2 ct.length c2) (ct) ∧ KVars w8 ∧ 0 < N ∧ Below N w w8 ∧ Row w8 G5 24 ([.int .i64 0]) ∧ N < G5 ∧ Row w8 G6 22 (Lib.byteCells mm) ∧ G5 < G6 ∧ Row w8 G7 22 (Lib.byteCells kk) ∧ Row w8 G8 22 (Lib.byteCells rr) ∧ G6 < G7 ∧ G6 < G8 ∧ Sl w8 w8.heap.size (.slice (some ⟨gu, 0, none⟩) again.length cu) (again) ∧ Row w8 q 5 (Lib.byteCells rej)) := by
   obtain ⟨h0, h1, h2, h3, h4, h5, h6, h7, h8, h9, h10, h11, h12, h13, h14⟩ := FC.out
   have := h0.lt
   have := h6.lt
   have := h8.lt
   have := h10.lt
   have := h11.lt
   have := b9.size
   exact ⟨h0.go b9, h1.below (b9.mono (by omega)), h2.below (b9.mono (by omega)), h3.step b9, h4, h5.trans (b9.mono (by omega)), h6.go b9, h7, h8.go b9, h9, h10.go b9, h11.go b9, h12, h13, h14.go b9, hr8⟩
  clear b9 FC hr8 hq HV HSK
  go_wp2_with (go_at_call 31; refine (sureB_ok _ w8).mono ?_)
  rintro e w9 ⟨rfl, rfl⟩
  go_wp2
  refine wp_region_held_drew (S := fun w' => True) (by kernel_rfl) trivial (fun hS => ?_)
  clear hS
  obtain ⟨X19, hX19⟩ : ∃ V, V = World.drew w8 := ⟨_, rfl⟩
  rw [← hX19]
  have FE : Shh (Row X19 N 22 (Lib.byteCells z32) ∧ Sl X19 (N) (.slice A dk.length c) (dk) ∧ Sl X19 (N) (.slice A2 ct.length c2) (ct) ∧ KVars X19 ∧ 0 < N ∧ Below N w X19 ∧ Row X19 G5 24 ([.int .i64 0]) ∧ N < G5 ∧ Row X19 G6 22 (Lib.byteCells mm) ∧ G5 < G6 ∧ Row X19 G7 22 (Lib.byteCells kk) ∧ Row X19 G8 22 (Lib.byteCells rr) ∧ G6 < G7 ∧ G6 < G8 ∧ Sl X19 X19.heap.size (.slice (some ⟨gu, 0, none⟩) again.length cu) (again) ∧ Row X19 q 5 (Lib.byteCells rej)) := by
   obtain ⟨h0, h1, h2, h3, h4, h5, h6, h7, h8, h9, h10, h11, h12, h13, h14, h15⟩ := FD.out
   rw [hX19]
   exact ⟨h0.drew, h1.drew, h2.drew, h3.drew, h4, h5.drew, h6.drew, h7, h8.drew, h9, h10.drew, h11.drew, h12, h13, h14.drew, h15.drew⟩
  clear hX19 FD
  refine hdv0 0 42 (.slice (some ⟨gu, 0, none⟩) again.length cu) (by rfl) trivial ?_ (hQ := fun _ _ _ _ h => panic_put (put_de (d := 42) (by decide)) h)
  refine hdv0 1 43 (.slice A2 ct.length c2) (by rfl) trivial ?_ (hQ := fun _ _ _ _ h => panic_put (put_de (d := 43) (by decide)) h)
  refine hdv0 3 45 (.slice (some ⟨G7, 0, none⟩) 32 32) (by rfl) trivial ?_ (hQ := fun _ _ _ _ h => panic_put (put_de (d := 45) (by decide)) h)
  refine hdv0 4 46 (.slice (some ⟨q, 0, none⟩) 32 32) (by rfl) trivial ?_ (hQ := fun _ _ _ _ h => panic_put (put_de (d := 46) (by decide)) h)
  refine held_one 2 (by kernel_rfl) ?_
  refine step_call 2 _ _ (some 44) 34 #[.slice (some ⟨gu, 0, none⟩) again.length cu, .slice A2 ct.length c2] (by rfl) (by kernel_rfl) (by first | kernel_rfl | go_simp) ?_
  refine (HSM.out X19 _ N _ (FE.out.2.2.2.2.2.2.2.2.2.2.2.2.2.2.1) FE.out.2.2.1).mono ?_
  rintro e w20 ⟨rfl, hq⟩
  obtain rfl : X19 = w20 := hq
  refine ⟨_, rfl, trivial, ?_⟩
  simp only [Act.put, arr9, hd9, tl9]
  refine held_one 5 (by kernel_rfl) ?_
  refine step_call 5 _ _ (some 47) 33 #[.bool r, .slice (some ⟨G7, 0, none⟩) 32 32, .slice (some ⟨q, 0, none⟩) 32 32] (by rfl) (by kernel_rfl) (by first | kernel_rfl | go_simp) ?_
  refine (HCH.out X19 (G7 + 1) (q + 1) _ _ (Sl.of_bytes (FE.out.2.2.2.2.2.2.2.2.2.2.1) (Nat.lt_succ_self _) HML.out.2.1 (by decide)) (Sl.of_bytes (FE.out.2.2.2.2.2.2.2.2.2.2.2.2.2.2.2) (Nat.lt_succ_self _) HML.out.2.2.2.2.1 (by decide)) (FE.out.2.2.2.2.2.2.2.2.2.2.1).lt (FE.out.2.2.2.2.2.2.2.2.2.2.2.2.2.2.2).lt).mono ?_
  rintro e Z ⟨u3, rfl, hu, bu⟩
  obtain ⟨g3, c3, rfl⟩ := own_some hu (by rw [HML.out.2.2.2.2.2]; decide)
  have FF : Shh (Row Z N 22 (Lib.byteCells z32) ∧ Sl Z (N) (.slice A dk.length c) (dk) ∧ Sl Z (N) (.slice A2 ct.length c2) (ct) ∧ KVars Z ∧ 0 < N ∧ Below N w Z ∧ Row Z G5 24 ([.int .i64 0]) ∧ N < G5 ∧ Row Z G6 22 (Lib.byteCells mm) ∧ G5 < G6 ∧ Row Z G7 22 (Lib.byteCells kk) ∧ Row Z G8 22 (Lib.byteCells rr) ∧ G6 < G7 ∧ G6 < G8 ∧ Sl Z Z.heap.size (.slice (some ⟨gu, 0, none⟩) again.length cu) (again) ∧ Row Z q 5 (Lib.byteCells rej) ∧ Sl Z Z.heap.size (.slice (some ⟨g3, 0, none⟩) fin.length c3) (fin)) := by
   obtain ⟨h0, h1, h2, h3, h4, h5, h6, h7, h8, h9, h10, h11, h12, h13, h14, h15⟩ := FE.out
   have := h0.lt
   have := h6.lt
   have := h8.lt
   have := h10.lt
   have := h11.lt
   have := h15.lt
   have := bu.size
   exact ⟨h0.go bu, h1.below (bu.mono (by omega)), h2.below (bu.mono (by omega)), h3.step bu, h4, h5.trans (bu.mono (by omega)), h6.go bu, h7, h8.go bu, h9, h10.go bu, h11.go bu, h12, h13, h14.go bu, h15.go bu, Sl.of_own hu⟩
  clear bu FE hu
  refine ⟨_, rfl, trivial, ?_⟩
  simp only [Act.put, arr9, hd9, tl9]
  refine hdv0 6 48 (.slice (some ⟨g3, 0, none⟩) fin.length c3) (by rfl) trivial ?_ (hQ := fun _ _ _ _ h => panic_put (put_de (d := 48) (by decide)) h)
  refine hdv0 7 49 (.int .i64 0) (by rfl) trivial ?_ (hQ := fun _ _ _ _ h => panic_put (put_de (d := 49) (by decide)) h)
  refine held_one 8 (by kernel_rfl) ?_
  refine step_call 8 _ _ (some 50) 31 #[.slice (some ⟨g3, 0, none⟩) fin.length c3, .int .i64 0] (by rfl) (by kernel_rfl) (by first | kernel_rfl | go_simp) ?_
  refine (sureB_ok _ Z).mono ?_
  rintro e w21 ⟨rfl, hq⟩
  obtain rfl : Z = w21 := hq
  refine ⟨_, rfl, trivial, ?_⟩
  simp only [Act.put, arr9, hd9, tl9]
  refine hdv 9 51 (.pointer (some ⟨g3, 0, none⟩)) (by rfl) (fun w hS => run_s2a (n := fin.length) (c := c3) (by rw [HML.out.2.2.2.2.2]; decide) rfl (by kernel_rfl)) trivial ?_ (hQ := fun _ _ _ _ h => panic_put (put_de (d := 51) (by decide)) h)
  refine held_one 10 (by kernel_rfl) ?_
  refine step_value 10 _ _ (some 52) (.agg (Lib.byteCells fin).toArray) Z (by rfl) (by kernel_rfl) (run_load_mid8 (by kernel_rfl) ((FF.out.2.2.2.2.2.2.2.2.2.2.2.2.2.2.2.2).range (by rw [HML.out.2.2.2.2.2]; decide)) Tryd.underlying22 rfl (size_a32 HML.out.2.2.2.2.2)) trivial ?_
  simp only [Act.put, arr9, hd9, tl9]
  have FZ : Shh (Row Z N 22 (Lib.byteCells z32) ∧ Row Z G5 24 ([.int .i64 0]) ∧ N < G5 ∧ Below N w Z) := by
   obtain ⟨h0, h1, h2, h3, h4, h5, h6, h7, h8, h9, h10, h11, h12, h13, h14, h15, h16⟩ := FF.out
   exact ⟨h0, h6, h7, h5⟩
  clear FF
  refine held_one 11 (by kernel_rfl) ?_
  refine step_storeRow 11 22 (.tmp 4) (.tmp 52) (by rfl) (by kernel_rfl) N rfl (Lib.byteCells fin) rfl 22 (Lib.byteCells z32) (FZ.out.1) (size_a32 HML.out.2.2.2.2.2) (by rw [Lib.byteCells_length, Lib.byteCells_length, HML.out.2.2.2.2.2, z32_length]) (cell_oneCell _) ?_
  intro w23 r24 bt22 zbt22
  have FA : Shh (Row w23 N 22 (Lib.byteCells fin) ∧ Row w23 G5 24 ([.int .i64 0]) ∧ N < G5 ∧ Below N w w23) := by
   obtain ⟨h0, h1, h2, h3⟩ := FZ.out
   have := h0.lt
   have := h1.lt
   have hb := bt22.under (Nat.le_of_lt h0.lt) (Nat.le_refl _)
   have := hb.size
   exact ⟨r24, bt22.row h1 h1.lt (by omega), h2, h3.trans (hb.mono (by omega))⟩
  clear bt22 FZ r24 zbt22
  refine ⟨trivial, ?_⟩
  refine held_one 12 (by kernel_rfl) ?_
  refine step_storeEr 12 (.tmp 5) (.const (.int .i64 0)) (by rfl) (by kernel_rfl) (g := G5) (er := 0) (by kernel_rfl) (by kernel_rfl) (FA.out.2.1) ?_
  intro V r12 b12 z12
  have FB : Shh (Row V N 22 (Lib.byteCells fin) ∧ Row V G5 24 ([.int .i64 0]) ∧ N < G5 ∧ Below N w V) := by
   obtain ⟨h0, h1, h2, h3⟩ := FA.out
   have := h0.lt
   have := h1.lt
   have hb := b12.under (Nat.le_of_lt h1.lt) (Nat.le_refl _)
   have := hb.size
   exact ⟨b12.row h0 h0.lt (by omega), r12, h2, h3.trans (hb.mono (by omega))⟩
  clear b12 FA r12 z12
  refine ⟨trivial, ?_⟩
  refine wpAnyH_done (by kernel_rfl) ?_ _
  go_wp2
  refine leaves_cons (f := 27) (args := #[.pointer (some ⟨G5, 0, none⟩)]) (by simp) (by simp [go_sem]) ?_
  refine (idle_de G5 0 _ (FB.out.2.1)).mono ?_
  rintro e u' w'' ⟨rfl, rfl, rfl⟩
  exact ⟨_, results_cc Tryd.results9 _ _ ⟨N, 0, none⟩ ⟨G5, 0, none⟩ _ _ rfl rfl (load_a32 HML.out.2.2.2.2.2 ((FB.out.1).other ⟨G5, 0, none⟩ _ (by have := FB.out.2.2.1; show ¬ N = G5; omega))) (load_er (set_er (FB.out.2.1) 0)), rfl, (FB.out.2.2.2).setCell (p := ⟨G5, 0, none⟩) (by have := FB.out.2.2.1; show N ≤ G5; omega) _⟩
end Go.Proofs.YtbjpbeplpljieaaDoor
