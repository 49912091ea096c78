/-
  WALK: the law SealBits.
-/
import Derived.Test.YtaalmjcpaiihhaaDoorLive4
import Derived.Test.YtaalmjcpaiihhaaDoorFew4
import Derived.Test.YtaalmjcpaiihhaaDoorRefOpen
import Derived.Test.YtaalmjcpaiihhaaDoorSeals
namespace Go.Proofs.YtaalmjcpaiihhaaDoor
open Go.RowKit
set_option maxRecDepth 100000

theorem strB_take (enc nonce : List UInt8) (n m : Nat) (h : n ≤ m) : (strB enc nonce m).take n = strB enc nonce n := by
  have hb : blocksN n ≤ blocksN m := by unfold blocksN; omega
  have h1 := strN_take enc nonce (blocksN n) (blocksN m) hb
  have h2 : n ≤ 32 * blocksN n := by unfold blocksN; omega
  unfold strB
  rw [List.take_take, Nat.min_eq_left h, ← h1, List.take_take, Nat.min_eq_left h2]
theorem shut_pre (key nonce ad tx : List UInt8) (n : Nat) (h : n ≤ tx.length) : (shutB key nonce ad tx).take n = List.zipWith (· ^^^ ·) (tx.take n) (strB (encK key) nonce n) := by
  rw [shut_take _ _ _ _ n h]
  unfold covB
  rw [List.take_zipWith, strB_take _ _ _ _ h]
theorem xor_both : ∀ (a b s : List UInt8), a.length = s.length → b.length = s.length → List.zipWith (· ^^^ ·) (List.zipWith (· ^^^ ·) a s) (List.zipWith (· ^^^ ·) b s) = List.zipWith (· ^^^ ·) a b := by
  intro a
  induction a with
  | nil => intro b s _ _; simp
  | cons x r ih =>
    intro b s ha hb
    cases s with
    | nil => simp at ha
    | cons z t =>
      cases b with
      | nil => simp at hb
      | cons y q =>
        simp only [List.zipWith_cons_cons]
        rw [ih q t (by simpa using ha) (by simpa using hb)]
        congr 1
        rw [UInt8.xor_comm y z, ← UInt8.xor_assoc, UInt8.xor_assoc x z z, UInt8.xor_self, UInt8.xor_zero]
theorem bits_math (key nonce ad ta tb : List UInt8) (n : Nat) (h1 : n ≤ ta.length) (h2 : n ≤ tb.length) :
    List.zipWith (· ^^^ ·) ((shutB key nonce ad ta).take n) ((shutB key nonce [] tb).take n) = List.zipWith (· ^^^ ·) (ta.take n) (tb.take n) := by
  rw [shut_pre _ _ _ _ _ h1, shut_pre _ _ _ _ _ h2]
  refine xor_both _ _ _ ?_ ?_
  · rw [strB_length, List.length_take]; omega
  · rw [strB_length, List.length_take]; omega
theorem slice_to_any {w : World} {B n c : Nat} {A : Option Addr} {bs : List UInt8} (h : Sl w B (.slice A n c) bs) (j : Nat) (hj : j ≤ n) (hn : n ≤ c) :
    ∃ v, (∀ u, (Instr.sliceAt 24 (.slice A n c) none (some (.int .i64 (j : Int))) none).run Tryd.prog u = .ok v u) ∧ Sl w B v (bs.take j) := by
  have hcut := h.cut 0 j (Nat.zero_le _) hj (by omega)
  rw [List.drop_zero] at hcut
  refine ⟨_, fun u => ?_, hcut⟩
  rw [run_sliceAt_slice _ _ _ _ _ _ slice30, run_slice_h u 24 A n c slice30 .i64 (j : Int) (by omega) (by omega), elem30, run_sizeOf_u8, Result.andThen_ok, Int.toNat_natCast]

set_option maxHeartbeats 4000000 in
theorem bits_any (key nonce : List UInt8) (vad : Value) (ad : List UInt8) (vta : Value) (ta : List UInt8) (vtb : Value) (tb : List UInt8) (w : World) (hv : Vars w) (hkl : key.length = 32) (hnl : nonce.length = 12) (had : Sl w w.heap.size vad ad) (hta : Sl w w.heap.size vta ta) (htb : Sl w w.heap.size vtb tb) :
    Calls Tryd.prog 8 #[.agg (Lib.byteCells key).toArray, .agg (Lib.byteCells nonce).toArray, vad, vta, vtb] w (TrueIs w) := by
  unfold TrueIs
  obtain ⟨Aad, cad, rfl, _, _⟩ := had.form
  obtain ⟨Ata, cta, rfl, _, _⟩ := hta.form
  obtain ⟨Atb, ctb, rfl, _, _⟩ := htb.form
  generalize hN : w.heap.size = N at *
  obtain ⟨W1, hW1⟩ : ∃ W1, W1 = (w.alloc (.cells (Lib.byteCells key).toArray 22)).alloc (.cells (Lib.byteCells nonce).toArray 23) := ⟨_, rfl⟩
  have hb1 : Below N w W1 := by rw [hW1]; exact ((Below.refl N w).alloc (by omega) _).alloc (by rw [asz]; omega) _
  have hzW : W1.heap.size = N + 2 := by rw [hW1, asz, asz, hN]
  have HC : Shh (Sl W1 W1.heap.size (.slice Aad ad.length cad) ad ∧ Sl W1 W1.heap.size (.slice Ata ta.length cta) ta ∧ Sl W1 W1.heap.size (.slice Atb tb.length ctb) tb ∧ Row W1 N 22 (Lib.byteCells key) ∧ Row W1 (N + 1) 23 (Lib.byteCells nonce) ∧ Vars W1 ∧ Below N w W1 ∧ N + 2 ≤ W1.heap.size) :=
    ⟨(had.below hb1).more (by omega), (hta.below hb1).more (by omega), (htb.below hb1).more (by omega), by rw [hW1]; exact (Row.new_ hN.symm rfl).alloc _, by rw [hW1]; exact Row.new_ (by rw [asz, hN]) rfl, hv.step (by rw [hN]; exact hb1), hb1, by omega⟩
  rw [hW1] at HC
  clear hv hb1 hzW hW1 had hta htb
  go_enter Tryd.func8, Tryd.ntmps8
  go_wp2_with (go_at_call 14; refine (live_any _ HC.out.2.2.2.2.2.1).mono ?_)
  rintro e Y1 ⟨rfl, b1⟩
  have H1 : Shh (Sl Y1 Y1.heap.size (.slice Aad ad.length cad) ad ∧ Sl Y1 Y1.heap.size (.slice Ata ta.length cta) ta ∧ Sl Y1 Y1.heap.size (.slice Atb tb.length ctb) tb ∧ Row Y1 N 22 (Lib.byteCells key) ∧ Row Y1 (N + 1) 23 (Lib.byteCells nonce) ∧ Vars Y1 ∧ Below N w Y1 ∧ N + 2 ≤ Y1.heap.size) := ⟨HC.out.1.go b1, HC.out.2.1.go b1, HC.out.2.2.1.go b1, HC.out.2.2.2.1.go b1, HC.out.2.2.2.2.1.go b1, HC.out.2.2.2.2.2.1.go b1, HC.out.2.2.2.2.2.2.1.trans (b1.mono (by have := HC.out.2.2.2.2.2.2.2; omega)), by have := HC.out.2.2.2.2.2.2.2; have := b1.size; omega⟩
  clear HC b1
  have bP : Shh (Below Y1.heap.size Y1 (Y1.alloc (.cells #[.slice Aad ad.length cad, .slice Ata ta.length cta, .slice Atb tb.length ctb] 24)) ∧ Row (Y1.alloc (.cells #[.slice Aad ad.length cad, .slice Ata ta.length cta, .slice Atb tb.length ctb] 24)) Y1.heap.size 24 [.slice Aad ad.length cad, .slice Ata ta.length cta, .slice Atb tb.length ctb]) := ⟨Below.alloc (Below.refl _ _) (Nat.le_refl _) _, Row.new_ rfl rfl⟩
  obtain ⟨W, hW⟩ : ∃ W, W = Y1.alloc (.cells #[.slice Aad ad.length cad, .slice Ata ta.length cta, .slice Atb tb.length ctb] 24) := ⟨_, rfl⟩
  rw [← hW] at bP
  have H2 : Shh (Sl W W.heap.size (.slice Aad ad.length cad) ad ∧ Sl W W.heap.size (.slice Ata ta.length cta) ta ∧ Sl W W.heap.size (.slice Atb tb.length ctb) tb ∧ Row W N 22 (Lib.byteCells key) ∧ Row W (N + 1) 23 (Lib.byteCells nonce) ∧ Vars W ∧ Below N w W ∧ N + 2 ≤ W.heap.size) := ⟨H1.out.1.go bP.out.1, H1.out.2.1.go bP.out.1, H1.out.2.2.1.go bP.out.1, H1.out.2.2.2.1.go bP.out.1, H1.out.2.2.2.2.1.go bP.out.1, H1.out.2.2.2.2.2.1.go bP.out.1, H1.out.2.2.2.2.2.2.1.trans (bP.out.1.mono (by have := H1.out.2.2.2.2.2.2.2; omega)), by have := H1.out.2.2.2.2.2.2.2; have := bP.out.1.size; omega⟩
  have hP : Shh (PartsO W W.heap.size W.heap.size (.slice (some ⟨Y1.heap.size, 0, none⟩) 3 3) [ad, ta, tb]) :=
    ⟨PartsO.three bP.out.2.lt (Nat.ne_of_lt bP.out.2.lt) bP.out.2 H2.out.1 (H2.out.1.off (Nat.le_refl _)) H2.out.2.1 (H2.out.2.1.off (Nat.le_refl _)) H2.out.2.2.1 (H2.out.2.2.1.off (Nat.le_refl _))⟩
  rw [hW] at hP H2
  clear bP H1
  go_wp2_with (go_at_call 15; refine (few4_any _ _ _ [ad, ta, tb] _ hP.out (by simp)).mono ?_)
  rintro e Y2 ⟨rfl, rfl⟩
  rw [← hW] at hP H2 ⊢
  clear hP hW
  cases hf : few4B [ad, ta, tb] with
  | false =>
    go_wp2_with (go_at_call 14; refine (live_any _ H2.out.2.2.2.2.2.1).mono ?_)
    rintro e Y3 ⟨rfl, b3⟩
    have F : Shh (Below N w Y3) := ⟨H2.out.2.2.2.2.2.2.1.trans (b3.mono (by have := H2.out.2.2.2.2.2.2.2; omega))⟩
    clear H2 b3
    go_wp2
    go_ret
    exact ⟨rfl, F.out⟩
  | true =>
    have hfy := few4_yes hf
    have hlad : ad.length ≤ 2000 := hfy _ (by simp)
    have hlta : ta.length ≤ 2000 := hfy _ (by simp)
    have hltb : tb.length ≤ 2000 := hfy _ (by simp)
    clear hf hfy
    obtain ⟨n, hn⟩ : ∃ n, n = min ta.length tb.length := ⟨_, rfl⟩
    have qmin : Shh ((if (tb.length : Int) < (ta.length : Int) then (tb.length : Int) else (ta.length : Int)) = (n : Int)) := ⟨by split <;> omega⟩
    have hna : n ≤ ta.length := by omega
    have hnb : n ≤ tb.length := by omega
    clear hn
    go_wp2_with (refine wpList_min rfl (.tmp 26) (.tmp 28) 3 3 rfl (ta.length : Int) (tb.length : Int) (n : Int) rfl rfl qmin.out ?_)
    go_wp2
    refine share (T := ?T) (fun hT => ?gg) ?tt
    case gg =>
      refine wp_region_held_drew (S := fun w' => w'.rangeAt N 0 (Lib.byteCells key) ∧ w'.rangeAt (N + 1) 0 (Lib.byteCells nonce)) (by kernel_rfl) ⟨H2.out.2.2.2.1.drew.range, H2.out.2.2.2.2.1.drew.range⟩ (fun hS => ?_)
      clear hS
      have bd : Below W.heap.size W W.drew := (Below.refl _ _).drew
      have H3 : Shh (Sl W.drew W.drew.heap.size (.slice Aad ad.length cad) ad ∧ Sl W.drew W.drew.heap.size (.slice Ata ta.length cta) ta ∧ Sl W.drew W.drew.heap.size (.slice Atb tb.length ctb) tb ∧ Row W.drew N 22 (Lib.byteCells key) ∧ Row W.drew (N + 1) 23 (Lib.byteCells nonce) ∧ Vars W.drew ∧ Below N w W.drew ∧ N + 2 ≤ W.drew.heap.size) := ⟨H2.out.1.go bd, H2.out.2.1.go bd, H2.out.2.2.1.go bd, H2.out.2.2.2.1.go bd, H2.out.2.2.2.2.1.go bd, H2.out.2.2.2.2.2.1.go bd, H2.out.2.2.2.2.2.2.1.trans (bd.mono (by have := H2.out.2.2.2.2.2.2.2; omega)), by have := H2.out.2.2.2.2.2.2.2; have := bd.size; omega⟩
      clear bd
      generalize W.drew = V at H3 ⊢
      have HAD := H3.out.1
      have HTA := H3.out.2.1
      have HTB := H3.out.2.2.1
      have rK := H3.out.2.2.2.1
      have rN := H3.out.2.2.2.2.1
      have HVA := H3.out.2.2.2.2.2.1
      refine held_value 2 _ _ (some 32) (.slice Aad ad.length cad) (by kernel_rfl) (by rfl) (by kernel_rfl) (fun w hS => by first | kernel_rfl | go_simp) (fun _ _ _ _ h => h) (⟨(rK).range, (rN).range⟩) ?_
      simp only [Act.put, List.setIfInBounds_toArray, List.set_cons_zero, List.set_cons_succ]
      refine held_value 3 _ _ (some 33) (.slice Ata ta.length cta) (by kernel_rfl) (by rfl) (by kernel_rfl) (fun w hS => by first | kernel_rfl | go_simp) (fun _ _ _ _ h => h) (⟨(rK).range, (rN).range⟩) ?_
      simp only [Act.put, List.setIfInBounds_toArray, List.set_cons_zero, List.set_cons_succ]
      refine held_value 7 _ _ (some 37) (.slice Atb tb.length ctb) (by kernel_rfl) (by rfl) (by kernel_rfl) (fun w hS => by first | kernel_rfl | go_simp) (fun _ _ _ _ h => h) (⟨(rK).range, (rN).range⟩) ?_
      simp only [Act.put, List.setIfInBounds_toArray, List.set_cons_zero, List.set_cons_succ]
      refine held_load 0 22 (.tmp 5) (some 30) (by kernel_rfl) (by rfl) (by kernel_rfl) N 0 (by kernel_rfl) (Lib.byteCells key) (.array 32 5) (fun w h => h.1) Tryd.underlying22 rfl (info_b32.trans (size_bytes _ _ hkl)) (fun _ _ _ _ h => h) (⟨(rK).range, (rN).range⟩) ?_
      simp only [Act.put, List.setIfInBounds_toArray, List.set_cons_zero, List.set_cons_succ]
      refine held_load 1 23 (.tmp 6) (some 31) (by kernel_rfl) (by rfl) (by kernel_rfl) (N + 1) 0 (by kernel_rfl) (Lib.byteCells nonce) (.array 12 5) (fun w h => h.2) Tryd.underlying23 rfl (info_b12.trans (size_bytes _ _ hnl)) (fun _ _ _ _ h => h) (⟨(rK).range, (rN).range⟩) ?_
      simp only [Act.put, List.setIfInBounds_toArray, List.set_cons_zero, List.set_cons_succ]
      refine held_load 5 22 (.tmp 5) (some 35) (by kernel_rfl) (by rfl) (by kernel_rfl) N 0 (by kernel_rfl) (Lib.byteCells key) (.array 32 5) (fun w h => h.1) Tryd.underlying22 rfl (info_b32.trans (size_bytes _ _ hkl)) (fun _ _ _ _ h => h) (⟨(rK).range, (rN).range⟩) ?_
      simp only [Act.put, List.setIfInBounds_toArray, List.set_cons_zero, List.set_cons_succ]
      refine held_load 6 23 (.tmp 6) (some 36) (by kernel_rfl) (by rfl) (by kernel_rfl) (N + 1) 0 (by kernel_rfl) (Lib.byteCells nonce) (.array 12 5) (fun w h => h.2) Tryd.underlying23 rfl (info_b12.trans (size_bytes _ _ hnl)) (fun _ _ _ _ h => h) (⟨(rK).range, (rN).range⟩) ?_
      simp only [Act.put, List.setIfInBounds_toArray, List.set_cons_zero, List.set_cons_succ]
      refine held_one 4 (by kernel_rfl) ?_
      refine step_call 4 _ _ (some 34) 24 #[.agg (Lib.byteCells key).toArray, .agg (Lib.byteCells nonce).toArray, .slice Aad ad.length cad, .slice Ata ta.length cta] (by rfl) (by kernel_rfl) (by first | kernel_rfl | go_simp) ?_
      refine (shut_any V.heap.size _ _ key nonce ad ta V HAD HTA (Nat.le_refl _) HVA hkl hnl (by first | omega | simp) (by omega)).mono ?_
      rintro e Y1 ⟨v34, rfl, g34⟩
      have bx : Below V.heap.size V Y1 := g34.2
      have s34 := gives_sl g34
      clear g34
      obtain ⟨A34, c34, rfl, _, _⟩ := s34.form
      have b_V := bx
      have m_Y1 : V.heap.size ≤ Y1.heap.size := bx.size
      clear bx
      refine ⟨_, rfl, ⟨((rK.go b_V)).range, ((rN.go b_V)).range⟩, ?_⟩
      simp only [Act.put, List.setIfInBounds_toArray, List.set_cons_zero, List.set_cons_succ]
      refine held_one 8 (by kernel_rfl) ?_
      refine step_call 8 _ _ (some 38) 24 #[.agg (Lib.byteCells key).toArray, .agg (Lib.byteCells nonce).toArray, .slice none 0 0, .slice Atb tb.length ctb] (by rfl) (by kernel_rfl) (by first | kernel_rfl | go_simp) ?_
      refine (shut_any Y1.heap.size _ _ key nonce [] tb Y1 Sl.nil_ (HTB.go b_V) (Nat.le_refl _) (HVA.go b_V) hkl hnl (by first | omega | simp) (by omega)).mono ?_
      rintro e Y2 ⟨v38, rfl, g38⟩
      have bx : Below Y1.heap.size Y1 Y2 := g38.2
      have s38 := gives_sl g38
      clear g38
      obtain ⟨A38, c38, rfl, _, _⟩ := s38.form
      replace b_V := Below.chain b_V bx
      have b_Y1 := bx
      have m_Y2 : Y1.heap.size ≤ Y2.heap.size := bx.size
      clear bx
      refine ⟨_, rfl, ⟨((rK.go b_V)).range, ((rN.go b_V)).range⟩, ?_⟩
      simp only [Act.put, List.setIfInBounds_toArray, List.set_cons_zero, List.set_cons_succ]
      refine held_value 9 _ _ (some 12) (.slice A34 (shutB key nonce ad ta).length c34) (by kernel_rfl) (by rfl) (by kernel_rfl) (fun w hS => by first | kernel_rfl | go_simp) (fun _ _ _ _ h => h) (⟨((rK.go b_V)).range, ((rN.go b_V)).range⟩) ?_
      simp only [Act.put, List.setIfInBounds_toArray, List.set_cons_zero, List.set_cons_succ]
      refine held_value 10 _ _ (some 13) (.slice A38 (shutB key nonce [] tb).length c38) (by kernel_rfl) (by rfl) (by kernel_rfl) (fun w hS => by first | kernel_rfl | go_simp) (fun _ _ _ _ h => h) (⟨((rK.go b_V)).range, ((rN.go b_V)).range⟩) ?_
      simp only [Act.put, List.setIfInBounds_toArray, List.set_cons_zero, List.set_cons_succ]
      refine wpAnyH_done (by kernel_rfl) ?_ _
      have F : Shh (Sl Y2 Y2.heap.size (.slice A34 (shutB key nonce ad ta).length c34) (shutB key nonce ad ta) ∧ Sl Y2 Y2.heap.size (.slice A38 (shutB key nonce [] tb).length c38) (shutB key nonce [] tb) ∧ Sl Y2 Y2.heap.size (.slice Ata ta.length cta) ta ∧ Sl Y2 Y2.heap.size (.slice Atb tb.length ctb) tb ∧ Below N w Y2 ∧ N ≤ Y2.heap.size ∧ (shutB key nonce ad ta).length ≤ c34 ∧ (shutB key nonce [] tb).length ≤ c38) := ⟨(s34.go b_Y1), s38, (HTA.go b_V), (HTB.go b_V), (H3.out.2.2.2.2.2.2.1).trans (b_V.mono (by have := H3.out.2.2.2.2.2.2.2; omega)), by have := H3.out.2.2.2.2.2.2.2; have := b_V.size; omega, by assumption, by assumption⟩
      clear m_Y2 b_Y1 s38 m_Y1 b_V s34 HAD HTA HTB rK rN HVA H3
      revert F
      revert Y2
      revert A34 c34 A38 c38
      exact hT.out
    case tt =>
      intro A34 c34 _ _ A38 c38 _ _ X F
      have hx := shutB_length key nonce ad ta
      have hy := shutB_length key nonce [] tb
      have HM := bits_math key nonce ad ta tb n hna hnb
      obtain ⟨sx, hsx⟩ : ∃ sx, sx = shutB key nonce ad ta := ⟨_, rfl⟩
      obtain ⟨sy, hsy⟩ : ∃ sy, sy = shutB key nonce [] tb := ⟨_, rfl⟩
      rw [← hsx] at F hx HM ⊢
      rw [← hsy] at F hy HM ⊢
      have HXY : Shh (List.zipWith (· ^^^ ·) (sx.take n) (sy.take n) = List.zipWith (· ^^^ ·) (ta.take n) (tb.take n)) := ⟨HM⟩
      have qx : ((sx.length : Int) != (ta.length : Int) + 32) = false := by rw [hx]; simp
      have qy : ((sy.length : Int) != (tb.length : Int) + 32) = false := by rw [hy]; simp
      have hnx : n ≤ sx.length := by omega
      have hny : n ≤ sy.length := by omega
      have hlx : sx.length ≤ 3000 := by omega
      have hly : sy.length ≤ 3000 := by omega
      clear hx hy HM hsx hsy
      have HD : Shh (Sl X.drew X.drew.heap.size (.slice A34 sx.length c34) sx ∧ Sl X.drew X.drew.heap.size (.slice A38 sy.length c38) sy ∧ Sl X.drew X.drew.heap.size (.slice Ata ta.length cta) ta ∧ Sl X.drew X.drew.heap.size (.slice Atb tb.length ctb) tb ∧ Below N w X.drew ∧ N ≤ X.drew.heap.size ∧ sx.length ≤ c34 ∧ sy.length ≤ c38) := ⟨F.out.1, F.out.2.1, F.out.2.2.1, F.out.2.2.2.1, F.out.2.2.2.2.1.drew, F.out.2.2.2.2.2.1, F.out.2.2.2.2.2.2⟩
      clear F H2
      go_wp2
      refine wp_region_held_drew (S := fun _ => True) (by kernel_rfl) trivial (fun hS => ?_)
      generalize X.drew = V at HD ⊢
      obtain ⟨vx, hrx, HX⟩ := slice_to_any HD.out.1 n hnx HD.out.2.2.2.2.2.2.1
      obtain ⟨vy, hry, HY⟩ := slice_to_any HD.out.2.1 n hny HD.out.2.2.2.2.2.2.2
      obtain ⟨va, hra, HA⟩ := slice_to_any HD.out.2.2.1 n hna (by omega)
      obtain ⟨vb, hrb, HB⟩ := slice_to_any HD.out.2.2.2.1 n hnb (by omega)
      refine held_value 0 _ _ (some 53) (.slice A34 sx.length c34) (by kernel_rfl) (by rfl) (by kernel_rfl) (fun w hS => by first | kernel_rfl | go_simp) (fun _ _ _ _ h => h) (trivial) ?_
      simp only [Act.put, List.setIfInBounds_toArray, List.set_cons_zero, List.set_cons_succ]
      refine held_value 1 _ _ (some 54) (.int .i64 (n : Int)) (by kernel_rfl) (by rfl) (by kernel_rfl) (fun w hS => by first | kernel_rfl | go_simp) (fun _ _ _ _ h => h) (trivial) ?_
      simp only [Act.put, List.setIfInBounds_toArray, List.set_cons_zero, List.set_cons_succ]
      refine held_value 2 _ _ (some 55) (vx) (by kernel_rfl) (by rfl) (by kernel_rfl) (fun w hS => run_slice_op ⟨rfl, rfl⟩ (hrx w)) (fun _ _ _ _ h => h) (trivial) ?_
      simp only [Act.put, List.setIfInBounds_toArray, List.set_cons_zero, List.set_cons_succ]
      refine held_value 3 _ _ (some 56) (.slice A38 sy.length c38) (by kernel_rfl) (by rfl) (by kernel_rfl) (fun w hS => by first | kernel_rfl | go_simp) (fun _ _ _ _ h => h) (trivial) ?_
      simp only [Act.put, List.setIfInBounds_toArray, List.set_cons_zero, List.set_cons_succ]
      refine held_value 4 _ _ (some 57) (.int .i64 (n : Int)) (by kernel_rfl) (by rfl) (by kernel_rfl) (fun w hS => by first | kernel_rfl | go_simp) (fun _ _ _ _ h => h) (trivial) ?_
      simp only [Act.put, List.setIfInBounds_toArray, List.set_cons_zero, List.set_cons_succ]
      refine held_value 5 _ _ (some 58) (vy) (by kernel_rfl) (by rfl) (by kernel_rfl) (fun w hS => run_slice_op ⟨rfl, rfl⟩ (hry w)) (fun _ _ _ _ h => h) (trivial) ?_
      simp only [Act.put, List.setIfInBounds_toArray, List.set_cons_zero, List.set_cons_succ]
      refine held_value 7 _ _ (some 60) (.slice Ata ta.length cta) (by kernel_rfl) (by rfl) (by kernel_rfl) (fun w hS => by first | kernel_rfl | go_simp) (fun _ _ _ _ h => h) (trivial) ?_
      simp only [Act.put, List.setIfInBounds_toArray, List.set_cons_zero, List.set_cons_succ]
      refine held_value 8 _ _ (some 61) (.int .i64 (n : Int)) (by kernel_rfl) (by rfl) (by kernel_rfl) (fun w hS => by first | kernel_rfl | go_simp) (fun _ _ _ _ h => h) (trivial) ?_
      simp only [Act.put, List.setIfInBounds_toArray, List.set_cons_zero, List.set_cons_succ]
      refine held_value 9 _ _ (some 62) (va) (by kernel_rfl) (by rfl) (by kernel_rfl) (fun w hS => run_slice_op ⟨rfl, rfl⟩ (hra w)) (fun _ _ _ _ h => h) (trivial) ?_
      simp only [Act.put, List.setIfInBounds_toArray, List.set_cons_zero, List.set_cons_succ]
      refine held_value 10 _ _ (some 63) (.slice Atb tb.length ctb) (by kernel_rfl) (by rfl) (by kernel_rfl) (fun w hS => by first | kernel_rfl | go_simp) (fun _ _ _ _ h => h) (trivial) ?_
      simp only [Act.put, List.setIfInBounds_toArray, List.set_cons_zero, List.set_cons_succ]
      refine held_value 11 _ _ (some 64) (.int .i64 (n : Int)) (by kernel_rfl) (by rfl) (by kernel_rfl) (fun w hS => by first | kernel_rfl | go_simp) (fun _ _ _ _ h => h) (trivial) ?_
      simp only [Act.put, List.setIfInBounds_toArray, List.set_cons_zero, List.set_cons_succ]
      refine held_value 12 _ _ (some 65) (vb) (by kernel_rfl) (by rfl) (by kernel_rfl) (fun w hS => run_slice_op ⟨rfl, rfl⟩ (hrb w)) (fun _ _ _ _ h => h) (trivial) ?_
      simp only [Act.put, List.setIfInBounds_toArray, List.set_cons_zero, List.set_cons_succ]
      refine held_one 6 (by kernel_rfl) ?_
      refine step_call 6 _ _ (some 59) 28 #[vx, vy] (by rfl) (by kernel_rfl) (by first | kernel_rfl | go_simp) ?_
      refine (refXor_any V.heap.size V.heap.size _ _ (sx.take n) (sy.take n) V HX HY (Nat.le_refl _) (Nat.le_refl _) (by rw [List.length_take]; omega) (by rw [List.length_take, List.length_take]; omega)).mono ?_
      rintro e Y1 ⟨v59, rfl, g59⟩
      have bx : Below V.heap.size V Y1 := g59.2
      rw [HXY.out] at g59
      have s59 := gives_sl g59
      clear g59
      have b_V := bx
      have m_Y1 : V.heap.size ≤ Y1.heap.size := bx.size
      clear bx
      refine ⟨_, rfl, trivial, ?_⟩
      simp only [Act.put, List.setIfInBounds_toArray, List.set_cons_zero, List.set_cons_succ]
      refine held_one 13 (by kernel_rfl) ?_
      refine step_call 13 _ _ (some 66) 28 #[va, vb] (by rfl) (by kernel_rfl) (by first | kernel_rfl | go_simp) ?_
      refine (refXor_any Y1.heap.size Y1.heap.size _ _ (ta.take n) (tb.take n) Y1 (HA.go b_V) (HB.go b_V) (Nat.le_refl _) (Nat.le_refl _) (by rw [List.length_take]; omega) (by rw [List.length_take, List.length_take]; omega)).mono ?_
      rintro e Y2 ⟨v66, rfl, g66⟩
      have bx : Below Y1.heap.size Y1 Y2 := g66.2
      have s66 := gives_sl g66
      clear g66
      replace b_V := Below.chain b_V bx
      have b_Y1 := bx
      have m_Y2 : Y1.heap.size ≤ Y2.heap.size := bx.size
      clear bx
      refine ⟨_, rfl, trivial, ?_⟩
      simp only [Act.put, List.setIfInBounds_toArray, List.set_cons_zero, List.set_cons_succ]
      refine held_one 14 (by kernel_rfl) ?_
      refine step_call 14 _ _ (some 67) 21 #[v59, v66] (by rfl) (by kernel_rfl) (by first | kernel_rfl | go_simp) ?_
      refine (refEqual_yes Y2.heap.size Y2.heap.size _ _ (List.zipWith (· ^^^ ·) (ta.take n) (tb.take n)) Y2 (s59.go b_Y1) s66).mono ?_
      rintro e Y3 ⟨rfl, hq⟩
      obtain rfl : Y2 = Y3 := hq
      refine ⟨_, rfl, trivial, ?_⟩
      simp only [Act.put, List.setIfInBounds_toArray, List.set_cons_zero, List.set_cons_succ]
      refine held_value 15 _ _ (some 10) (.bool true) (by kernel_rfl) (by rfl) (by kernel_rfl) (fun w hS => by first | kernel_rfl | go_simp) (fun _ _ _ _ h => h) (trivial) ?_
      simp only [Act.put, List.setIfInBounds_toArray, List.set_cons_zero, List.set_cons_succ]
      refine wpAnyH_done (by kernel_rfl) ?_ _
      have F : Shh (Below N w Y2) := ⟨HD.out.2.2.2.2.1.trans (b_V.mono HD.out.2.2.2.2.2.1)⟩
      clear m_Y2 b_Y1 s66 m_Y1 b_V s59 HX HY HA HB HD hS hrx hry hra hrb
      go_wp2
      go_ret
      exact ⟨rfl, F.out⟩
end Go.Proofs.YtaalmjcpaiihhaaDoor
