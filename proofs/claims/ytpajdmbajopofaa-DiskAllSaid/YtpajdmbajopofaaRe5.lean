/-
 WALK: the document's Load.
-/
import Derived.Test.YtpajdmbajopofaaRe4
namespace Go.Proofs.Ytpajdmbajopofaa
open Go.RowKit
set_option maxRecDepth 100000
theorem LdI.one {w W : World} {c : Nat} {l : List (List UInt8)} (h : LdI w c l W) : ∃ A n cp, W.cell? ⟨w.heap.size, 0, none⟩ = some (.slice A n cp) := by
 obtain ⟨_, col, gv, _, h3, _, xs, h5, _⟩ := h
 have e := h3.cell 0
 rcases h5.2 with ⟨rfl, _⟩ | ⟨p, cap, cur, rfl, _⟩
 ·exact ⟨_, _, _, e⟩
 ·exact ⟨_, _, _, e⟩
theorem sl_part {W : World} {bb off cv at_ B : Nat} {b : List UInt8} (hbb : bb < B) (h : ∀ k (h : k < b.length), W.cell? ⟨bb, off + k, none⟩ = some (.int .u8 b[k].toNat)) (hle : at_ + 256 ≤ b.length) (h1 : b.length ≤ cv) (h2 : cv ≤ maxLen) : ((b.drop at_).take 256).length = 256 ∧ Sl W B (.slice (some ⟨bb, off + at_, none⟩) 256 (cv - at_)) ((b.drop at_).take 256) := by
 have hl : ((b.drop at_).take 256).length = 256 := by rw [List.length_take, List.length_drop]; omega
 refine ⟨hl, some ⟨bb, off + at_, none⟩, cv - at_, by rw [hl], by omega, by omega, fun _ => ⟨bb, off + at_, rfl, hbb, fun k hk => ?_⟩⟩
 rw [Nat.add_assoc, h (at_ + k) (by omega), List.getElem_take, List.getElem_drop]
theorem ownF {w : World} {T : TypeId} {sz n : Nat} {v : Value} {xs : List Value} (h : w.ownsRow 0 T sz v n xs) : ∃ A cp, v = .slice A n cp := by
 rcases h.2 with ⟨rfl, e⟩ | ⟨p, cap, cur, rfl, _⟩
 ·exact ⟨none, 0, by rw [e]⟩
 ·exact ⟨_, _, rfl⟩
set_option maxHeartbeats 4000000 in
theorem rLoad_any (c : Nat) (hc : c ≠ 0) (B : Nat) (v : Value) (b : List UInt8) (w : World) (hs : Sl w B v b) (hB : B ≤ w.heap.size) : Calls Try.prog 23 #[v] w (RmkIs c w (ldBad b.length) (newS (secs b (b.length / 256)))) := by
 have HB0 : Shh (Below w.heap.size w w) := ⟨Below.refl _ _⟩
 obtain ⟨A, cv, rfl, hl1, hl2⟩ := hs.form
 have hmx : b.length ≤ 9223372036854775807 := by unfold maxLen at hl2; omega
 have HCV : Shh (b.length ≤ cv ∧ cv ≤ maxLen) := ⟨hl1, hl2⟩
 obtain ⟨L, hL⟩ : ∃ L, L = b.length := ⟨_, rfl⟩
 have HAT : 0 < L → Shh (∃ bb off, A = some ⟨bb, off, none⟩ ∧ bb < w.heap.size ∧ ∀ k (h : k < b.length), w.cell? ⟨bb, off + k, none⟩ = some (.int .u8 b[k].toNat)) := fun h => by
  obtain ⟨bb, off, h1, h2, h3⟩ := hs.at_ (by omega)
  exact ⟨bb, off, h1, by omega, h3⟩
 have hq : (L : Int) / 256 = ((L / 256 : Nat) : Int) := by omega
 have hr : (L : Int) % 256 = ((L % 256 : Nat) : Int) := by omega
 rw [← hL]
 clear hl1 hl2 hs
 rw [← hL] at hmx
 obtain ⟨Q, hQ⟩ : ∃ Q, Q = L / 256 := ⟨_, rfl⟩
 obtain ⟨R, hR⟩ : ∃ R, R = L % 256 := ⟨_, rfl⟩
 have hwq : wrap64 (Q : Int) = (Q : Int) := by unfold wrap64; omega
 have HM := Shh.mk (May_any (Q : Int) w)
 unfold ldBad
 rw [← hQ] at hq ⊢
 rw [← hR] at hr ⊢
 by_cases h0 : R = 0
 case neg =>
  rw [show (decide (R ≠ 0 ∨ Q < 8 ∨ 2048 < Q)) = true from by simp [h0]]
  unfold RmkIs
  simp only [↓reduceIte]
  have h0' : ((R : Int) != 0) = true := by rw [bne_iff_ne]; omega
  clear HAT hQ hR hL h0 hmx
  go_enter Try.func23, Try.ntmps23
  go_wp2
  go_ret2
  exact ⟨rfl, HB0.out⟩
 have h0' : ((R : Int) != 0) = false := by rw [h0]; rfl
 by_cases h1 : 8 ≤ Q ∧ Q ≤ 2048
 case neg =>
  rw [show (decide (R ≠ 0 ∨ Q < 8 ∨ 2048 < Q)) = true from by simp; omega]
  rw [show (decide (8 ≤ (Q : Int) ∧ (Q : Int) ≤ 2048)) = false from by simp; omega] at HM
  unfold RmkIs
  simp only [↓reduceIte]
  clear HAT hQ hR hL h0 h1 hmx
  go_enter Try.func23, Try.ntmps23
  go_wp2_with (go_at_call 37; refine (HM.out).mono ?_)
  unfold AnsIs
  rintro e w1 ⟨rfl, rfl⟩
  go_wp2
  go_ret2
  exact ⟨rfl, HB0.out⟩
 ·rw [show (decide (R ≠ 0 ∨ Q < 8 ∨ 2048 < Q)) = false from by simp; omega]
  rw [show (decide (8 ≤ (Q : Int) ∧ (Q : Int) ≤ 2048)) = true from by simp; omega] at HM
  unfold RmkIs
  simp only [Bool.false_eq_true, ↓reduceIte]
  obtain ⟨bb, off, rfl, hbb, hbc⟩ := (HAT (by omega)).out
  have HQQ : Shh (b.length = 256 * Q ∧ 8 ≤ Q ∧ Q ≤ 2048 ∧ L = 256 * Q) := ⟨by omega, by omega, by omega, by omega⟩
  have HSRC : Shh (bb < w.heap.size ∧ ∀ k (h : k < b.length), w.cell? ⟨bb, off + k, none⟩ = some (.int .u8 b[k].toNat)) := ⟨hbb, hbc⟩
  obtain ⟨W1, hW1⟩ : ∃ W1, w.alloc (.cells #[.slice none 0 0, .slice none 0 0, .bool false, .int .i64 (-1), .int .i64 0] 64) = W1 := ⟨_, rfl⟩
  have HI0 : Shh (LdI w c (secs b 0) W1) := ⟨by rw [← hW1]; exact LdI.start w c⟩
  clear HAT hQ hR hL h0 h1 hmx hbb hbc
  go_enter Try.func23, Try.ntmps23
  go_wp2_with (go_at_call 37; refine (HM.out).mono ?_)
  unfold AnsIs
  rintro e w1 ⟨rfl, rfl⟩
  go_wp2
  go_loopw [5] (fun j wr => ∃ k : Nat, k ≤ Q ∧ j = .int .i64 ((256 * k : Nat) : Int) ∧ Shh (LdI w c (secs b k) wr)) (fun j _ => 256 * Q - (intOf j).toNat)
  case atStart => exact ⟨0, Nat.zero_le _, rfl, HI0⟩
  case round =>
   clear HI0 hW1
   obtain ⟨k, hk, rfl, H⟩ := hrel
   by_cases hlt : k < Q
   ·have hlt2 : ((256 * k : Nat) : Int) < (L : Int) := by have := HQQ.out; omega
    have HK : Shh (k < Q) := ⟨hlt⟩
    obtain ⟨at_, hat⟩ : ∃ at_, at_ = 256 * k := ⟨_, rfl⟩
    rw [← hat] at hlt2 ⊢
    have HAK := Shh.mk hat
    clear hlt hat hk
    go_wp2
    refine wp_region_held_drew (S := fun _ => True) (by kernel_rfl) trivial (fun hS => ?_)
    clear hS
    obtain ⟨V, hV⟩ : ∃ V, V = World.drew wr := ⟨_, rfl⟩
    rw [← hV]
    have HV : Shh (LdI w c (secs b k) V) := ⟨by rw [hV]; exact H.out.drew⟩
    clear hV H
    obtain ⟨hbel, col, gv, hh, hrow, hcN, xs, x1, x2, x3⟩ := HV.out
    obtain ⟨A2, cp2, rfl⟩ := ownF x1
    have HLE : Shh (at_ + 256 ≤ b.length ∧ at_ + 256 ≤ L ∧ at_ ≤ 1000000000 ∧ L ≤ cv) := ⟨by have := HQQ.out; have := HK.out; have := HAK.out; have := HCV.out; omega⟩
    obtain ⟨W0, hW0⟩ : ∃ W0, V.alloc (.cells #[.slice (some ⟨bb, off + at_, none⟩) 256 (cv - at_)] 33) = W0 := ⟨_, rfl⟩
    have b0 : Below V.heap.size V W0 := by rw [← hW0]; exact Below.alloc (Below.refl _ _) (Nat.le_refl _) _
    have r0 : Row W0 V.heap.size 33 [.slice (some ⟨bb, off + at_, none⟩) 256 (cv - at_)] := by rw [← hW0]; exact Row.new_ rfl rfl
    have hVs := hbel.size
    have hp := sl_part (W := W0) (B := W0.heap.size) (bb := bb) (off := off) (at_ := at_) (b := b) (cv := cv) (by have := b0.size; have := HSRC.out.1; omega) (fun k hk => ((hbel.trans (b0.mono hVs)).cell (p := ⟨bb, off + k, none⟩) HSRC.out.1).trans (HSRC.out.2 k hk)) HLE.out.1 HCV.out.1 HCV.out.2
    have hse : secs b (k + 1) = secs b k ++ [(b.drop at_).take 256] := by rw [secs_succ, ← HAK.out]
    obtain ⟨bs, hbs⟩ : ∃ bs, bs = (b.drop at_).take 256 := ⟨_, rfl⟩
    rw [← hbs] at hp hse
    have HBL := Shh.mk hp.1
    have HSE := Shh.mk hse
    have HJ : Shh (Calls Try.prog 21 #[.slice (some ⟨V.heap.size, 0, none⟩) 1 1] W0 (OwnIs W0 bs)) := by
     have := refJoin_any W0.heap.size W0.heap.size _ [bs] W0 (PartsO.solo (n := 1) r0 r0.lt (by have := r0.lt; omega) hp.2 (Off.at_ (by have := b0.size; have := HSRC.out.1; omega))) (Nat.le_refl _) (by simp; omega) (by simp)
     rw [flat_one] at this
     exact ⟨this⟩
    have c0 : V.cell? ⟨w.heap.size, 0, none⟩ = some (.slice A2 (secs b k).length cp2) := hrow.cell 0
    have HC : Shh (V.cell? ⟨w.heap.size, 0, none⟩ = some (.slice A2 (secs b k).length cp2) ∧ W0.cell? ⟨w.heap.size, 0, none⟩ = some (.slice A2 (secs b k).length cp2)) := ⟨c0, (b0.cell (p := ⟨w.heap.size, 0, none⟩) hrow.lt).trans c0⟩
    have HP := Shh.mk (And.intro hbel (And.intro hh (And.intro hrow (And.intro hcN (And.intro x1 (And.intro x2 (And.intro x3 b0)))))))
    obtain ⟨kk, hkk⟩ : ∃ kk, kk = (secs b k).length := ⟨_, rfl⟩
    rw [← hkk] at HC
    have HKK : Shh (kk = (secs b k).length ∧ kk ≤ 2048) := ⟨hkk, by rw [hkk, secs_length]; have := HQQ.out; have := HK.out; omega⟩
    clear hkk hbel hh hrow hcN x1 x2 x3 b0 r0 hVs hp hse hbs c0 HV
    refine hdv0 0 25 (.pointer (some ⟨w.heap.size, 0, none⟩)) (by rfl) trivial ?_
    refine hdv0 1 26 (.pointer (some ⟨w.heap.size, 0, none⟩)) (by rfl) trivial ?_
    refine hdv 2 27 (.pointer (some ⟨w.heap.size, 0, none⟩)) (by rfl) (fun w hS => rnil_ok rfl (by kernel_rfl)) trivial ?_
    refine hdv 3 28 (.pointer (some ⟨w.heap.size, 0, none⟩)) (by rfl) (fun w hS => fr_0 rfl (by kernel_rfl)) trivial ?_
    refine hdv0 5 30 (.slice (some ⟨bb, off, none⟩) L cv) (by rfl) trivial ?_
    refine hdv0 6 31 (.int .i64 (at_ : Int)) (by rfl) trivial ?_
    refine hdv0 7 32 (.int .i64 (at_ : Int)) (by rfl) trivial ?_
    refine hdv 8 33 (.int .i64 ((at_ + 256 : Nat) : Int)) (by rfl) (fun w hS => add_256 HLE.out.2.2.1 rfl (by kernel_rfl)) trivial ?_
    refine hdv 9 34 (.slice (some ⟨bb, off + at_, none⟩) 256 (cv - at_)) (by rfl) (fun w hS => op_both (run_cutAt bb off L cv at_ HLE.out.2.1 HLE.out.2.2.2 w) rfl (by kernel_rfl) (by kernel_rfl) (by kernel_rfl)) trivial ?_
    refine held_two 4 10 (by kernel_rfl) ?_ ?_
    ·refine step_value 4 _ _ (some 29) (.slice A2 kk cp2) V (by rfl) (by kernel_rfl) (rload_ss rfl HC.out.1 (by kernel_rfl)) trivial ?_
     simp only [Act.put, arr9, hd9, tl9]
     refine held_one 10 (by kernel_rfl) ?_
     refine step_value 10 _ _ (some 35) (.slice (some ⟨V.heap.size, 0, none⟩) 1 1) W0 (by rfl) (by kernel_rfl) (by rw [← hW0]; exact op_build1 rfl (by kernel_rfl)) trivial ?_
     simp only [Act.put, arr9, hd9, tl9]
     refine held_one 11 (by kernel_rfl) ?_
     refine step_call 11 _ _ (some 36) 21 #[.slice (some ⟨V.heap.size, 0, none⟩) 1 1] (by rfl) (by kernel_rfl) (by first | kernel_rfl | go_simp) ?_
     refine (HJ.out).mono ?_
     unfold OwnIs Gives
     rintro e w9 ⟨v9, rfl, k1, k2⟩
     have hbl := HBL.out
     obtain ⟨q, dc, sp, rfl, q1, q2, q3, q4⟩ := own_row' k1 (by omega)
     rw [hbl]
     obtain ⟨i0, hi, hz0, hz1, hz2⟩ := info_parts info_sl
     obtain ⟨w10, hw10⟩ : ∃ w10, w9.alloc (.cells #[.slice (some ⟨q, 0, none⟩) 256 dc] 33) = w10 := ⟨_, rfl⟩
     have b10 : Below w9.heap.size w9 w10 := by rw [← hw10]; exact Below.alloc (Below.refl _ _) (Nat.le_refl _) _
     have hn10 : ∀ j u, [Value.slice (some ⟨q, 0, none⟩) 256 dc][j]? = some u → w10.cell? ((⟨w9.heap.size, 0, none⟩ : Addr).add j) = some u := by
      rw [← hw10]
      exact World.news_of_block (B := w9.heap.size) (cs := #[Value.slice (some ⟨q, 0, none⟩) 256 dc]) (t := 33) (fr := (0, 0)) (Row.new_ (cs := [Value.slice (some ⟨q, 0, none⟩) 256 dc]) rfl rfl)
     have b09 : Below V.heap.size V w9 := HP.out.2.2.2.2.2.2.2.trans (k2.mono HP.out.2.2.2.2.2.2.2.size)
     have hx1 := HP.out.2.2.2.2.1
     rw [← HKK.out.1] at hx1
     have ho10 : w10.ownsRow 0 33 1 (.slice A2 kk cp2) kk xs := ownsRow_go hx1 (b09.trans (b10.mono b09.size))
     obtain ⟨v', w11, hrun, o1, o2, _, o4⟩ := run_append_own_at (P := Try.prog) w10 0 61 61 33 i0 _ 1 24 Try.underlying61 hi hz0 hz1 hz2 rfl (by decide) _ _ _ ho10 ⟨w9.heap.size, 0, none⟩ 1 1 [.slice (some ⟨q, 0, none⟩) 256 dc] rfl hn10 (by intro u hu; simp only [List.mem_cons, List.not_mem_nil, or_false] at hu; subst hu; rfl) (by have := HKK.out.2; unfold maxLen; omega) (by have := HKK.out.2; omega) (Nat.zero_le _)
     obtain ⟨g', cap', rfl⟩ := ownsRow_succ o1
     have HR : Shh (Row w11 w.heap.size 64 _) := ⟨row_off hx1 HP.out.2.2.1 (by decide) (b09.trans (b10.mono b09.size)) o2⟩
     have HF : Shh (LdI w c (secs b (k + 1)) (w11.setCell ⟨w.heap.size, 0, none⟩ (.slice (some ⟨g', 0, none⟩) (kk + 1) cap'))) := by
      have hb9 := HP.out.2.2.2.2.2.2.2.size
      rw [HSE.out]
      refine ⟨ld_push hc HP.out.1 HP.out.2.1 HP.out.2.2.1 HP.out.2.2.2.1 HP.out.2.2.2.2.1 HP.out.2.2.2.2.2.1 HP.out.2.2.2.2.2.2.1 b09 (q := q) (cp := dc) (sp := sp) (by omega) q2 (by omega) q4 b10 (by rw [← HKK.out.1]; exact o2) (by rw [hbl, ← HKK.out.1]; exact o1) (by rw [← HKK.out.1]; exact o4)⟩
     have HC9 : Shh (w9.cell? ⟨w.heap.size, 0, none⟩ = some (.slice A2 kk cp2) ∧ w10.cell? ⟨w.heap.size, 0, none⟩ = some (.slice A2 kk cp2)) := ⟨(b09.cell (p := ⟨w.heap.size, 0, none⟩) HP.out.2.2.1.lt).trans HC.out.1, ((b09.trans (b10.mono b09.size)).cell (p := ⟨w.heap.size, 0, none⟩) HP.out.2.2.1.lt).trans HC.out.1⟩
     have HRUN := Shh.mk hrun
     clear hrun o1 o2 o4 ho10 hx1 b09 hn10 b10 hi hz0 hz1 hz2 q1 q2 q3 q4 k1 k2 hbl
     refine ⟨_, rfl, trivial, ?_⟩
     simp only [Act.put, arr9, hd9, tl9]
     refine held_one 12 (by kernel_rfl) ?_
     refine step_value 12 _ _ (some 37) (.slice (some ⟨w9.heap.size, 0, none⟩) 1 1) w10 (by rfl) (by kernel_rfl) (by rw [← hw10]; exact op_build1 rfl (by kernel_rfl)) trivial ?_
     simp only [Act.put, arr9, hd9, tl9]
     refine held_one 13 (by kernel_rfl) ?_
     refine step_value 13 _ _ (some 38) (.slice (some ⟨g', 0, none⟩) (kk + 1) cap') w11 (by rfl) (by kernel_rfl) (op_append2 rfl (by kernel_rfl) (by kernel_rfl) HRUN.out) trivial ?_
     simp only [Act.put, arr9, hd9, tl9]
     refine hdv 14 39 (.pointer (some ⟨w.heap.size, 0, none⟩)) (by rfl) (fun w hS => rnil_ok rfl (by kernel_rfl)) trivial ?_
     refine hdv 15 40 (.pointer (some ⟨w.heap.size, 0, none⟩)) (by rfl) (fun w hS => fr_0 rfl (by kernel_rfl)) trivial ?_
     refine held_one 16 (by kernel_rfl) ?_
     refine step_store1 16 _ (by rfl) (by kernel_rfl) (w11.setCell ⟨w.heap.size, 0, none⟩ (.slice (some ⟨g', 0, none⟩) (kk + 1) cap')) (store_rs rfl (by kernel_rfl) (by kernel_rfl) HR.out (by simp)) ?_
     refine ⟨trivial, ?_⟩
     refine wpAnyH_done (by kernel_rfl) ?_ _
     clear HRUN HR hW0 hw10
     go_wp2_with (refine wl_at 24 rfl (.int .i64 ((at_ + 256 : Nat) : Int)) rfl (add_256 HLE.out.2.2.1 rfl rfl) ?_)
     go_roundw
     case rel => exact ⟨k + 1, HK.out, by have := HAK.out; show Value.int _ _ = Value.int _ _; congr 2; omega, HF⟩
     case measure => have := HAK.out; have := HQQ.out; have := HK.out; simp [intOf]; omega
    ·refine step_value 10 _ _ (some 35) (.slice (some ⟨V.heap.size, 0, none⟩) 1 1) W0 (by rfl) (by kernel_rfl) (by rw [← hW0]; exact op_build1 rfl (by kernel_rfl)) trivial ?_
     simp only [Act.put, arr9, hd9, tl9]
     refine held_two 4 11 (by kernel_rfl) ?_ ?_
     ·refine step_value 4 _ _ (some 29) (.slice A2 kk cp2) W0 (by rfl) (by kernel_rfl) (rload_ss rfl HC.out.2 (by kernel_rfl)) trivial ?_
      simp only [Act.put, arr9, hd9, tl9]
      refine held_one 11 (by kernel_rfl) ?_
      refine step_call 11 _ _ (some 36) 21 #[.slice (some ⟨V.heap.size, 0, none⟩) 1 1] (by rfl) (by kernel_rfl) (by first | kernel_rfl | go_simp) ?_
      refine (HJ.out).mono ?_
      unfold OwnIs Gives
      rintro e w9 ⟨v9, rfl, k1, k2⟩
      have hbl := HBL.out
      obtain ⟨q, dc, sp, rfl, q1, q2, q3, q4⟩ := own_row' k1 (by omega)
      rw [hbl]
      obtain ⟨i0, hi, hz0, hz1, hz2⟩ := info_parts info_sl
      obtain ⟨w10, hw10⟩ : ∃ w10, w9.alloc (.cells #[.slice (some ⟨q, 0, none⟩) 256 dc] 33) = w10 := ⟨_, rfl⟩
      have b10 : Below w9.heap.size w9 w10 := by rw [← hw10]; exact Below.alloc (Below.refl _ _) (Nat.le_refl _) _
      have hn10 : ∀ j u, [Value.slice (some ⟨q, 0, none⟩) 256 dc][j]? = some u → w10.cell? ((⟨w9.heap.size, 0, none⟩ : Addr).add j) = some u := by
       rw [← hw10]
       exact World.news_of_block (B := w9.heap.size) (cs := #[Value.slice (some ⟨q, 0, none⟩) 256 dc]) (t := 33) (fr := (0, 0)) (Row.new_ (cs := [Value.slice (some ⟨q, 0, none⟩) 256 dc]) rfl rfl)
      have b09 : Below V.heap.size V w9 := HP.out.2.2.2.2.2.2.2.trans (k2.mono HP.out.2.2.2.2.2.2.2.size)
      have hx1 := HP.out.2.2.2.2.1
      rw [← HKK.out.1] at hx1
      have ho10 : w10.ownsRow 0 33 1 (.slice A2 kk cp2) kk xs := ownsRow_go hx1 (b09.trans (b10.mono b09.size))
      obtain ⟨v', w11, hrun, o1, o2, _, o4⟩ := run_append_own_at (P := Try.prog) w10 0 61 61 33 i0 _ 1 24 Try.underlying61 hi hz0 hz1 hz2 rfl (by decide) _ _ _ ho10 ⟨w9.heap.size, 0, none⟩ 1 1 [.slice (some ⟨q, 0, none⟩) 256 dc] rfl hn10 (by intro u hu; simp only [List.mem_cons, List.not_mem_nil, or_false] at hu; subst hu; rfl) (by have := HKK.out.2; unfold maxLen; omega) (by have := HKK.out.2; omega) (Nat.zero_le _)
      obtain ⟨g', cap', rfl⟩ := ownsRow_succ o1
      have HR : Shh (Row w11 w.heap.size 64 _) := ⟨row_off hx1 HP.out.2.2.1 (by decide) (b09.trans (b10.mono b09.size)) o2⟩
      have HF : Shh (LdI w c (secs b (k + 1)) (w11.setCell ⟨w.heap.size, 0, none⟩ (.slice (some ⟨g', 0, none⟩) (kk + 1) cap'))) := by
       have hb9 := HP.out.2.2.2.2.2.2.2.size
       rw [HSE.out]
       refine ⟨ld_push hc HP.out.1 HP.out.2.1 HP.out.2.2.1 HP.out.2.2.2.1 HP.out.2.2.2.2.1 HP.out.2.2.2.2.2.1 HP.out.2.2.2.2.2.2.1 b09 (q := q) (cp := dc) (sp := sp) (by omega) q2 (by omega) q4 b10 (by rw [← HKK.out.1]; exact o2) (by rw [hbl, ← HKK.out.1]; exact o1) (by rw [← HKK.out.1]; exact o4)⟩
      have HC9 : Shh (w9.cell? ⟨w.heap.size, 0, none⟩ = some (.slice A2 kk cp2) ∧ w10.cell? ⟨w.heap.size, 0, none⟩ = some (.slice A2 kk cp2)) := ⟨(b09.cell (p := ⟨w.heap.size, 0, none⟩) HP.out.2.2.1.lt).trans HC.out.1, ((b09.trans (b10.mono b09.size)).cell (p := ⟨w.heap.size, 0, none⟩) HP.out.2.2.1.lt).trans HC.out.1⟩
      have HRUN := Shh.mk hrun
      clear hrun o1 o2 o4 ho10 hx1 b09 hn10 b10 hi hz0 hz1 hz2 q1 q2 q3 q4 k1 k2 hbl
      refine ⟨_, rfl, trivial, ?_⟩
      simp only [Act.put, arr9, hd9, tl9]
      refine held_one 12 (by kernel_rfl) ?_
      refine step_value 12 _ _ (some 37) (.slice (some ⟨w9.heap.size, 0, none⟩) 1 1) w10 (by rfl) (by kernel_rfl) (by rw [← hw10]; exact op_build1 rfl (by kernel_rfl)) trivial ?_
      simp only [Act.put, arr9, hd9, tl9]
      refine held_one 13 (by kernel_rfl) ?_
      refine step_value 13 _ _ (some 38) (.slice (some ⟨g', 0, none⟩) (kk + 1) cap') w11 (by rfl) (by kernel_rfl) (op_append2 rfl (by kernel_rfl) (by kernel_rfl) HRUN.out) trivial ?_
      simp only [Act.put, arr9, hd9, tl9]
      refine hdv 14 39 (.pointer (some ⟨w.heap.size, 0, none⟩)) (by rfl) (fun w hS => rnil_ok rfl (by kernel_rfl)) trivial ?_
      refine hdv 15 40 (.pointer (some ⟨w.heap.size, 0, none⟩)) (by rfl) (fun w hS => fr_0 rfl (by kernel_rfl)) trivial ?_
      refine held_one 16 (by kernel_rfl) ?_
      refine step_store1 16 _ (by rfl) (by kernel_rfl) (w11.setCell ⟨w.heap.size, 0, none⟩ (.slice (some ⟨g', 0, none⟩) (kk + 1) cap')) (store_rs rfl (by kernel_rfl) (by kernel_rfl) HR.out (by simp)) ?_
      refine ⟨trivial, ?_⟩
      refine wpAnyH_done (by kernel_rfl) ?_ _
      clear HRUN HR hW0 hw10
      go_wp2_with (refine wl_at 24 rfl (.int .i64 ((at_ + 256 : Nat) : Int)) rfl (add_256 HLE.out.2.2.1 rfl rfl) ?_)
      go_roundw
      case rel => exact ⟨k + 1, HK.out, by have := HAK.out; show Value.int _ _ = Value.int _ _; congr 2; omega, HF⟩
      case measure => have := HAK.out; have := HQQ.out; have := HK.out; simp [intOf]; omega
     ·refine step_call 11 _ _ (some 36) 21 #[.slice (some ⟨V.heap.size, 0, none⟩) 1 1] (by rfl) (by kernel_rfl) (by first | kernel_rfl | go_simp) ?_
      refine (HJ.out).mono ?_
      unfold OwnIs Gives
      rintro e w9 ⟨v9, rfl, k1, k2⟩
      have hbl := HBL.out
      obtain ⟨q, dc, sp, rfl, q1, q2, q3, q4⟩ := own_row' k1 (by omega)
      rw [hbl]
      obtain ⟨i0, hi, hz0, hz1, hz2⟩ := info_parts info_sl
      obtain ⟨w10, hw10⟩ : ∃ w10, w9.alloc (.cells #[.slice (some ⟨q, 0, none⟩) 256 dc] 33) = w10 := ⟨_, rfl⟩
      have b10 : Below w9.heap.size w9 w10 := by rw [← hw10]; exact Below.alloc (Below.refl _ _) (Nat.le_refl _) _
      have hn10 : ∀ j u, [Value.slice (some ⟨q, 0, none⟩) 256 dc][j]? = some u → w10.cell? ((⟨w9.heap.size, 0, none⟩ : Addr).add j) = some u := by
       rw [← hw10]
       exact World.news_of_block (B := w9.heap.size) (cs := #[Value.slice (some ⟨q, 0, none⟩) 256 dc]) (t := 33) (fr := (0, 0)) (Row.new_ (cs := [Value.slice (some ⟨q, 0, none⟩) 256 dc]) rfl rfl)
      have b09 : Below V.heap.size V w9 := HP.out.2.2.2.2.2.2.2.trans (k2.mono HP.out.2.2.2.2.2.2.2.size)
      have hx1 := HP.out.2.2.2.2.1
      rw [← HKK.out.1] at hx1
      have ho10 : w10.ownsRow 0 33 1 (.slice A2 kk cp2) kk xs := ownsRow_go hx1 (b09.trans (b10.mono b09.size))
      obtain ⟨v', w11, hrun, o1, o2, _, o4⟩ := run_append_own_at (P := Try.prog) w10 0 61 61 33 i0 _ 1 24 Try.underlying61 hi hz0 hz1 hz2 rfl (by decide) _ _ _ ho10 ⟨w9.heap.size, 0, none⟩ 1 1 [.slice (some ⟨q, 0, none⟩) 256 dc] rfl hn10 (by intro u hu; simp only [List.mem_cons, List.not_mem_nil, or_false] at hu; subst hu; rfl) (by have := HKK.out.2; unfold maxLen; omega) (by have := HKK.out.2; omega) (Nat.zero_le _)
      obtain ⟨g', cap', rfl⟩ := ownsRow_succ o1
      have HR : Shh (Row w11 w.heap.size 64 _) := ⟨row_off hx1 HP.out.2.2.1 (by decide) (b09.trans (b10.mono b09.size)) o2⟩
      have HF : Shh (LdI w c (secs b (k + 1)) (w11.setCell ⟨w.heap.size, 0, none⟩ (.slice (some ⟨g', 0, none⟩) (kk + 1) cap'))) := by
       have hb9 := HP.out.2.2.2.2.2.2.2.size
       rw [HSE.out]
       refine ⟨ld_push hc HP.out.1 HP.out.2.1 HP.out.2.2.1 HP.out.2.2.2.1 HP.out.2.2.2.2.1 HP.out.2.2.2.2.2.1 HP.out.2.2.2.2.2.2.1 b09 (q := q) (cp := dc) (sp := sp) (by omega) q2 (by omega) q4 b10 (by rw [← HKK.out.1]; exact o2) (by rw [hbl, ← HKK.out.1]; exact o1) (by rw [← HKK.out.1]; exact o4)⟩
      have HC9 : Shh (w9.cell? ⟨w.heap.size, 0, none⟩ = some (.slice A2 kk cp2) ∧ w10.cell? ⟨w.heap.size, 0, none⟩ = some (.slice A2 kk cp2)) := ⟨(b09.cell (p := ⟨w.heap.size, 0, none⟩) HP.out.2.2.1.lt).trans HC.out.1, ((b09.trans (b10.mono b09.size)).cell (p := ⟨w.heap.size, 0, none⟩) HP.out.2.2.1.lt).trans HC.out.1⟩
      have HRUN := Shh.mk hrun
      clear hrun o1 o2 o4 ho10 hx1 b09 hn10 b10 hi hz0 hz1 hz2 q1 q2 q3 q4 k1 k2 hbl
      refine ⟨_, rfl, trivial, ?_⟩
      simp only [Act.put, arr9, hd9, tl9]
      refine held_two 4 12 (by kernel_rfl) ?_ ?_
      ·refine step_value 4 _ _ (some 29) (.slice A2 kk cp2) w9 (by rfl) (by kernel_rfl) (rload_ss rfl HC9.out.1 (by kernel_rfl)) trivial ?_
       simp only [Act.put, arr9, hd9, tl9]
       refine held_one 12 (by kernel_rfl) ?_
       refine step_value 12 _ _ (some 37) (.slice (some ⟨w9.heap.size, 0, none⟩) 1 1) w10 (by rfl) (by kernel_rfl) (by rw [← hw10]; exact op_build1 rfl (by kernel_rfl)) trivial ?_
       simp only [Act.put, arr9, hd9, tl9]
       refine held_one 13 (by kernel_rfl) ?_
       refine step_value 13 _ _ (some 38) (.slice (some ⟨g', 0, none⟩) (kk + 1) cap') w11 (by rfl) (by kernel_rfl) (op_append2 rfl (by kernel_rfl) (by kernel_rfl) HRUN.out) trivial ?_
       simp only [Act.put, arr9, hd9, tl9]
       refine hdv 14 39 (.pointer (some ⟨w.heap.size, 0, none⟩)) (by rfl) (fun w hS => rnil_ok rfl (by kernel_rfl)) trivial ?_
       refine hdv 15 40 (.pointer (some ⟨w.heap.size, 0, none⟩)) (by rfl) (fun w hS => fr_0 rfl (by kernel_rfl)) trivial ?_
       refine held_one 16 (by kernel_rfl) ?_
       refine step_store1 16 _ (by rfl) (by kernel_rfl) (w11.setCell ⟨w.heap.size, 0, none⟩ (.slice (some ⟨g', 0, none⟩) (kk + 1) cap')) (store_rs rfl (by kernel_rfl) (by kernel_rfl) HR.out (by simp)) ?_
       refine ⟨trivial, ?_⟩
       refine wpAnyH_done (by kernel_rfl) ?_ _
       clear HRUN HR hW0 hw10
       go_wp2_with (refine wl_at 24 rfl (.int .i64 ((at_ + 256 : Nat) : Int)) rfl (add_256 HLE.out.2.2.1 rfl rfl) ?_)
       go_roundw
       case rel => exact ⟨k + 1, HK.out, by have := HAK.out; show Value.int _ _ = Value.int _ _; congr 2; omega, HF⟩
       case measure => have := HAK.out; have := HQQ.out; have := HK.out; simp [intOf]; omega
      ·refine step_value 12 _ _ (some 37) (.slice (some ⟨w9.heap.size, 0, none⟩) 1 1) w10 (by rfl) (by kernel_rfl) (by rw [← hw10]; exact op_build1 rfl (by kernel_rfl)) trivial ?_
       simp only [Act.put, arr9, hd9, tl9]
       refine held_one 4 (by kernel_rfl) ?_
       refine step_value 4 _ _ (some 29) (.slice A2 kk cp2) w10 (by rfl) (by kernel_rfl) (rload_ss rfl HC9.out.2 (by kernel_rfl)) trivial ?_
       simp only [Act.put, arr9, hd9, tl9]
       refine held_one 13 (by kernel_rfl) ?_
       refine step_value 13 _ _ (some 38) (.slice (some ⟨g', 0, none⟩) (kk + 1) cap') w11 (by rfl) (by kernel_rfl) (op_append2 rfl (by kernel_rfl) (by kernel_rfl) HRUN.out) trivial ?_
       simp only [Act.put, arr9, hd9, tl9]
       refine hdv 14 39 (.pointer (some ⟨w.heap.size, 0, none⟩)) (by rfl) (fun w hS => rnil_ok rfl (by kernel_rfl)) trivial ?_
       refine hdv 15 40 (.pointer (some ⟨w.heap.size, 0, none⟩)) (by rfl) (fun w hS => fr_0 rfl (by kernel_rfl)) trivial ?_
       refine held_one 16 (by kernel_rfl) ?_
       refine step_store1 16 _ (by rfl) (by kernel_rfl) (w11.setCell ⟨w.heap.size, 0, none⟩ (.slice (some ⟨g', 0, none⟩) (kk + 1) cap')) (store_rs rfl (by kernel_rfl) (by kernel_rfl) HR.out (by simp)) ?_
       refine ⟨trivial, ?_⟩
       refine wpAnyH_done (by kernel_rfl) ?_ _
       clear HRUN HR hW0 hw10
       go_wp2_with (refine wl_at 24 rfl (.int .i64 ((at_ + 256 : Nat) : Int)) rfl (add_256 HLE.out.2.2.1 rfl rfl) ?_)
       go_roundw
       case rel => exact ⟨k + 1, HK.out, by have := HAK.out; show Value.int _ _ = Value.int _ _; congr 2; omega, HF⟩
       case measure => have := HAK.out; have := HQQ.out; have := HK.out; simp [intOf]; omega
   ·obtain rfl : k = Q := by omega
    have hlt2 : ¬ ((256 * k : Nat) : Int) < (L : Int) := by have := HQQ.out; omega
    obtain ⟨at_, hat⟩ : ∃ at_, at_ = 256 * k := ⟨_, rfl⟩
    rw [← hat] at hlt2 ⊢
    have F := Shh.mk (LdI.done H.out HQQ.out.2.1 HQQ.out.2.2.1 HQQ.out.1)
    clear H hat hlt hk
    go_wp2
    go_ret2
    exact ⟨_, rfl, F.out⟩
end Go.Proofs.Ytpajdmbajopofaa
