/-
  THE WALK of the document's own Stream and Ask.
-/
import Derived.Test.YtaalmjcpaiihhaaDoorStream
import Derived.Test.YtaalmjcpaiihhaaDoorME
namespace Go.Proofs.YtaalmjcpaiihhaaDoor
open Go.RowKit
set_option maxRecDepth 100000

set_option maxHeartbeats 2000000 in
theorem refStream_any (B : Nat) (ve vn : Value) (enc nonce : List UInt8) (n : Nat) (w : World) (he : Sl w B ve enc) (hn : Sl w B vn nonce) (hB : B ≤ w.heap.size) (hel : enc.length ≤ 1000000) (hnl : nonce.length ≤ 100) (hk : n ≤ 1048576) :
    Calls Tryd.prog 43 #[ve, vn, .int .i64 (n : Int)] w (SlIs w (strB enc nonce n)) := by
  unfold SlIs
  obtain ⟨A1, c1, rfl, _, _⟩ := he.form
  obtain ⟨A2, c2, rfl, _, _⟩ := hn.form
  have HC : Shh (Sl w w.heap.size (.slice A1 enc.length c1) enc ∧ Sl w w.heap.size (.slice A2 nonce.length c2) nonce) := ⟨he.more hB, hn.more hB⟩
  clear he hn
  obtain ⟨nb, hnb⟩ : ∃ nb, nb = blocksN n := ⟨_, rfl⟩
  have hnb1 : n ≤ 32 * nb ∧ 32 * nb < n + 32 := by rw [hnb]; unfold blocksN; omega
  have HNB := Lib.hid hnb
  clear hnb
  go_enter Tryd.func43, Tryd.ntmps43
  go_wp2
  go_loopw [7, 8] (fun o i wr => ∃ (k : Nat) (A : Option Addr) (c : Nat), k ≤ nb ∧ i = .int .i64 k ∧ o = .slice A (strN enc nonce k).length c ∧ Shh (Sl wr wr.heap.size o (strN enc nonce k) ∧ Below w.heap.size w wr))  (fun _ i _ => nb - (intOf i).toNat)
  case atStart =>
    refine ⟨0, _, _, Nat.zero_le _, rfl, rfl, ⟨?_, Below.alloc (Below.refl _ _) (Nat.le_refl _) _⟩⟩
    exact ⟨_, 0, rfl, Nat.le_refl _, by unfold maxLen; omega, fun h => absurd h (by simp [strN])⟩
  case round =>
    obtain ⟨k, A, c, hk1, rfl, rfl, H⟩ := hrel
    have hsl := strN_length enc nonce k
    by_cases hlt : 32 * k < n
    · have hlt2 : ((strN enc nonce k).length : Int) < (n : Int) := by omega
      have qk : (k : Int) % 18446744073709551616 = (k : Int) := by omega
      have HC2 : Shh (Sl wr wr.heap.size (.slice A1 enc.length c1) enc ∧ Sl wr wr.heap.size (.slice A2 nonce.length c2) nonce) := ⟨HC.out.1.go H.out.2, HC.out.2.go H.out.2⟩
      have HLN : Shh ((strN enc nonce k).length = 32 * k) := ⟨hsl⟩
      clear hsl
      go_wp2_with (go_at_call 47; refine (refBig_any k 4 _ (by omega) (by omega)).mono ?_)
      rintro e Y1 ⟨v1, rfl, g1⟩
      have s1 : Shh (Sl Y1 Y1.heap.size v1 (bigB k 4) ∧ Below wr.heap.size wr Y1) := ⟨gives_sl g1, g1.2⟩
      clear g1
      obtain ⟨A3, c3, rfl, _, _⟩ := s1.out.1.form
      have bP : Shh (Below Y1.heap.size Y1 (Y1.alloc (.cells #[.slice A2 nonce.length c2, .slice A3 (bigB k 4).length c3] 24)) ∧ Row (Y1.alloc (.cells #[.slice A2 nonce.length c2, .slice A3 (bigB k 4).length c3] 24)) Y1.heap.size 24 [.slice A2 nonce.length c2, .slice A3 (bigB k 4).length c3]) := ⟨Below.alloc (Below.refl _ _) (Nat.le_refl _) _, Row.new_ rfl rfl⟩
      generalize hY2 : Y1.alloc (.cells #[.slice A2 nonce.length c2, .slice A3 (bigB k 4).length c3] 24) = Y2 at bP
      have hP : Shh (PartsO Y2 Y2.heap.size Y2.heap.size (.slice (some ⟨Y1.heap.size, 0, none⟩) 2 2) [nonce, bigB k 4] ∧ Below wr.heap.size wr Y2) := by
        have hb := Below.chain s1.out.2 bP.out.1
        have hN := HC2.out.2.go hb
        have hG := s1.out.1.go bP.out.1
        exact ⟨PartsO.two bP.out.2.lt (Nat.ne_of_lt bP.out.2.lt) bP.out.2 hN (hN.off (Nat.le_refl _)) hG (hG.off (Nat.le_refl _)), hb⟩
      rw [← hY2] at hP
      clear bP hY2
      go_wp2_with (go_at_call 23; refine (refJoin_any _ _ _ [nonce, bigB k 4] _ hP.out.1 (Nat.le_refl _) (by simp [bigB_length]; omega) (by simp)).mono ?_)
      rintro e Y3 ⟨v3, rfl, g3⟩
      have s3 : Shh (Sl Y3 Y3.heap.size v3 [nonce, bigB k 4].flatten ∧ Below wr.heap.size wr Y3) := ⟨gives_sl g3, Below.chain hP.out.2 g3.2⟩
      clear g3 hP s1
      go_wp2_with (go_at_call 46; refine (refMac_any _ _ _ enc _ Y3 (HC2.out.1.go s3.out.2) s3.out.1 (Nat.le_refl _) hel (by simp [bigB_length]; omega)).mono ?_)
      rintro e Y4 ⟨v4, rfl, g4⟩
      have s4 : Shh (Sl Y4 Y4.heap.size v4 (blkB enc nonce k) ∧ Below wr.heap.size wr Y4) := ⟨by have := gives_sl g4; simpa [blkB] using this, Below.chain s3.out.2 g4.2⟩
      clear g4 s3
      obtain ⟨A4, c4, rfl, _, _⟩ := s4.out.1.form
      have bP : Shh (Below Y4.heap.size Y4 (Y4.alloc (.cells #[.slice A (strN enc nonce k).length c, .slice A4 (blkB enc nonce k).length c4] 24)) ∧ Row (Y4.alloc (.cells #[.slice A (strN enc nonce k).length c, .slice A4 (blkB enc nonce k).length c4] 24)) Y4.heap.size 24 [.slice A (strN enc nonce k).length c, .slice A4 (blkB enc nonce k).length c4]) := ⟨Below.alloc (Below.refl _ _) (Nat.le_refl _) _, Row.new_ rfl rfl⟩
      generalize hY5 : Y4.alloc (.cells #[.slice A (strN enc nonce k).length c, .slice A4 (blkB enc nonce k).length c4] 24) = Y5 at bP
      have hP : Shh (PartsO Y5 Y5.heap.size Y5.heap.size (.slice (some ⟨Y4.heap.size, 0, none⟩) 2 2) [strN enc nonce k, blkB enc nonce k] ∧ Below wr.heap.size wr Y5) := by
        have hb := Below.chain s4.out.2 bP.out.1
        have hN := H.out.1.go hb
        have hG := s4.out.1.go bP.out.1
        exact ⟨PartsO.two bP.out.2.lt (Nat.ne_of_lt bP.out.2.lt) bP.out.2 hN (hN.off (Nat.le_refl _)) hG (hG.off (Nat.le_refl _)), hb⟩
      rw [← hY5] at hP
      clear bP hY5
      go_wp2_with (go_at_call 23; refine (refJoin_any _ _ _ [strN enc nonce k, blkB enc nonce k] _ hP.out.1 (Nat.le_refl _) (by simp [blkB_length, strN_length]; omega) (by simp)).mono ?_)
      rintro e Y6 ⟨v6, rfl, g6⟩
      have s6 : Shh (Sl Y6 Y6.heap.size v6 (strN enc nonce (k + 1)) ∧ Below w.heap.size w Y6) := ⟨by have := gives_sl g6; simpa [strN] using this, Below.chain H.out.2 (Below.chain hP.out.2 g6.2)⟩
      clear g6 hP s4 HC2
      obtain ⟨A6, c6, rfl, _, _⟩ := s6.out.1.form
      go_wp2
      go_roundw
      case rel => exact ⟨k + 1, _, _, by omega, by go_num, rfl, s6⟩
      case measure => simp [intOf]; omega
    · have hlt2 : ¬ ((strN enc nonce k).length : Int) < (n : Int) := by omega
      have HE : Shh ((strN enc nonce k).take n = strB enc nonce n) := ⟨by unfold strB; rw [← HNB.out, show k = nb by omega]⟩
      have hge : n ≤ (strN enc nonce k).length := by omega
      clear hsl
      go_wp2_with (refine wpList_slice_to rfl (.tmp 27) (.tmp 28) rfl wr.heap.size _ rfl _ H.out.1 n rfl (by omega) ?_)
      intro v' hv' _
      rw [HE.out] at hv'
      have HR : Shh (Sl wr wr.heap.size v' (strB enc nonce n) ∧ Below w.heap.size w wr) := ⟨hv', H.out.2⟩
      clear hv' H
      go_wp2
      go_ret
      exact ⟨_, rfl, HR.out⟩

/-- bytes in a slice, and an error's number, are handed back -/
def PutSl (w : World) (er : Int) (bs : List UInt8) (e : Ending) (w' : World) : Prop := ∃ v, e = .returned (.tuple #[v, .int .i64 er]) ∧ Sl w' w'.heap.size v bs ∧ Below w.heap.size w w'
set_option maxHeartbeats 2000000 in
theorem refAsk_any (B : Nat) (ve vn : Value) (enc nonce : List UInt8) (n : Int) (w : World) (he : Sl w B ve enc) (hn : Sl w B vn nonce) (hB : B ≤ w.heap.size) (hel : enc.length ≤ 1000000) (hnl : nonce.length ≤ 100) :
    Calls Tryd.prog 19 #[ve, vn, .int .i64 n] w (PutSl w (strE n) (strV enc nonce n)) := by
  unfold PutSl
  obtain ⟨A1, c1, rfl, _, _⟩ := he.form
  obtain ⟨A2, c2, rfl, _, _⟩ := hn.form
  by_cases h0 : n < 0
  · have HE : Shh (strE n = 1 ∧ strV enc nonce n = []) := ⟨by unfold strE; rw [if_pos h0], by unfold strV; rw [if_pos h0]⟩
    rw [HE.out.1, HE.out.2]
    go_enter Tryd.func19, Tryd.ntmps19
    go_wp2
    go_ret2
    exact ⟨_, rfl, Sl.nil_, Below.refl _ _⟩
  · by_cases h1 : 1048576 < n
    · have HE : Shh (strE n = 3 ∧ strV enc nonce n = []) := ⟨by unfold strE; rw [if_neg h0, if_pos h1], by unfold strV; rw [if_neg h0, if_pos h1]⟩
      rw [HE.out.1, HE.out.2]
      go_enter Tryd.func19, Tryd.ntmps19
      go_wp2
      go_ret2
      exact ⟨_, rfl, Sl.nil_, Below.refl _ _⟩
    · obtain ⟨k, rfl⟩ : ∃ k : Nat, n = (k : Int) := ⟨n.toNat, by omega⟩
      have hk : k ≤ 1048576 := by omega
      have HE : Shh (strE (k : Int) = 0 ∧ strV enc nonce (k : Int) = strB enc nonce k) := ⟨by unfold strE; rw [if_neg h0, if_neg h1], by unfold strV; rw [if_neg h0, if_neg h1, Int.toNat_natCast]⟩
      rw [HE.out.1, HE.out.2]
      have HS : Shh (Sl w B (.slice A1 enc.length c1) enc ∧ Sl w B (.slice A2 nonce.length c2) nonce) := ⟨he, hn⟩
      clear he hn
      go_enter Tryd.func19, Tryd.ntmps19
      go_wp2_with (go_at_call 43; refine (refStream_any B _ _ enc nonce k w HS.out.1 HS.out.2 hB hel hnl hk).mono ?_)
      rintro e Y ⟨v, rfl, s⟩
      have F : Shh (Sl Y Y.heap.size v (strB enc nonce k) ∧ Below w.heap.size w Y) := ⟨s⟩
      clear s
      go_wp2
      go_ret2
      exact ⟨_, rfl, F.out⟩
end Go.Proofs.YtaalmjcpaiihhaaDoor
