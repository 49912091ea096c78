/-
  WALK: LmotsDigits: at every code, every set made by hand, every hash.
-/
import Derived.Test.YtcbcgegppnojmaaLm7
import Derived.BigQuiet
namespace Go.Proofs.Ytcbcgegppnojmaa
open Go.RowKit
set_option maxRecDepth 100000
theorem dgs_len {N W P L : Nat} (h : Shape N W P L) (bs : List UInt8) (hb : bs.length = N) : (dgs W P L bs).length = P ∧ P ≤ 300 := by
  have e1 : (pcs W bs).length = 8 / W * N := by rw [pcs_length, hb]
  have e2 : (pcs W (ckB W L (pcs W bs))).length = 8 / W * 2 := by rw [pcs_length]; unfold ckB; rw [bigB_length]
  unfold dgs
  rw [List.length_take, List.length_append, e1, e2]
  rcases h with ⟨rfl, rfl, rfl, rfl⟩ | ⟨rfl, rfl, rfl, rfl⟩ | ⟨rfl, rfl, rfl, rfl⟩ | ⟨rfl, rfl, rfl, rfl⟩ | ⟨rfl, rfl, rfl, rfl⟩ | ⟨rfl, rfl, rfl, rfl⟩ | ⟨rfl, rfl, rfl, rfl⟩ | ⟨rfl, rfl, rfl, rfl⟩ <;> decide
theorem dgX_len {x : S6} {bs : List UInt8} (h : x.ok = true) (hl : (bs.length : Int) = x.n) : ((dgX x bs).length : Int) = x.p ∧ (dgX x bs).length ≤ 300 := by
  obtain ⟨N, W, P, L, hsh, h1, h2, h3, h4⟩ := shape_of h
  have hb : bs.length = N := by omega
  have := dgs_len hsh bs hb
  unfold dgX
  rw [h2, h3, h4]
  simp only [Int.toNat_natCast]
  omega
/-- what the calls answer at one set and one hash -/
structure Pack (bs : List UInt8) (xc : Int) (xs : Bool) (xn xwd xp xl : Int) (E : Int) (D : List Nat) : Prop where
  dig : ∀ B v W, Sl W B v bs → B ≤ W.heap.size → Calls Try.prog 7 #[.agg #[.int .u32 xc, .bool xs, .int .i64 xn, .int .i64 xwd, .int .i64 xp, .int .i64 xl], v] W (fun e w' => ∃ u, e = .returned (.tuple #[u, .int .i64 E]) ∧ SI w' w'.heap.size u D ∧ Below W.heap.size W w')
  may : ∀ B v W, Sl W B v bs → Calls Try.prog 8 #[.agg #[.int .u32 xc, .bool xs, .int .i64 xn, .int .i64 xwd, .int .i64 xp, .int .i64 xl], v] W (OldIs (.int .i64 E) W)
  ref : E = 0 → ∀ B v W, Sl W B v bs → B ≤ W.heap.size → Calls Try.prog 9 #[.agg #[.int .u32 xc, .bool xs, .int .i64 xn, .int .i64 xwd, .int .i64 xp, .int .i64 xl], v] W (SeeI W D)
  len : (E = 0 ∧ (D.length : Int) = xp ∧ D.length ≤ 300) ∨ (E ≠ 0 ∧ D = [])
theorem pack (bs : List UInt8) (xc : Int) (xs : Bool) (xn xwd xp xl : Int) (h : S6.wf ⟨xc, xs, xn, xwd, xp, xl⟩) : Pack bs xc xs xn xwd xp xl (chkE ⟨xc, xs, xn, xwd, xp, xl⟩ bs.length) (digY ⟨xc, xs, xn, xwd, xp, xl⟩ bs) where
  dig := fun B v W hs hB => Digits_any xc xs xn xwd xp xl h B v bs W hs hB
  may := fun B v W hs => may_any xc xs xn xwd xp xl h W B v bs hs
  ref := fun hE B v W hs hB => by
    have hz := chkE_zero hE
    unfold digY
    rw [if_pos hE]
    exact refDigits_any xc xs xn xwd xp xl B v bs W hs hB hz.1 hz.2
  len := by
    unfold digY
    by_cases hE : chkE ⟨xc, xs, xn, xwd, xp, xl⟩ bs.length = 0
    · have hz := chkE_zero hE
      rw [if_pos hE]
      exact .inl ⟨hE, dgX_len hz.1 hz.2⟩
    · rw [if_neg hE]
      exact .inr ⟨hE, rfl⟩
set_option maxHeartbeats 8000000 in
theorem digits_law_of (k : Nat) (yc : Int) (ys : Bool) (yn ywd yp yl : Int) (xc : Int) (xs : Bool) (xn xwd xp xl : Int) (bs : List UInt8) (Ey Ex : Int) (Dy Dx : List Nat)
    (hset : ∀ W, Calls Try.prog 6 #[.int .u32 (k : Int)] W (OldIs (.agg #[.int .u32 yc, .bool ys, .int .i64 yn, .int .i64 ywd, .int .i64 yp, .int .i64 yl]) W)) (hy : Pack bs yc ys yn ywd yp yl Ey Dy) (hx : Pack bs xc xs xn xwd xp xl Ex Dx)
    (B : Nat) (v : Value) (w : World) (hs : Sl w B v bs) (hB : B ≤ w.heap.size) :
    Calls Try.prog 3 #[.int .u32 (k : Int), .agg #[.int .u32 xc, .bool xs, .int .i64 xn, .int .i64 xwd, .int .i64 xp, .int .i64 xl], v] w (TrueIs w) := by
  unfold TrueIs
  obtain ⟨G, hG⟩ : ∃ G, w.heap.size = G := ⟨_, rfl⟩
  have HW : Shh (Row (w.alloc (.cells #[.int .u32 xc, .bool xs, .int .i64 xn, .int .i64 xwd, .int .i64 xp, .int .i64 xl] 24)) G 24 [.int .u32 xc, .bool xs, .int .i64 xn, .int .i64 xwd, .int .i64 xp, .int .i64 xl] ∧ Below w.heap.size w (w.alloc (.cells #[.int .u32 xc, .bool xs, .int .i64 xn, .int .i64 xwd, .int .i64 xp, .int .i64 xl] 24)) ∧ Sl w B v bs ∧ B ≤ w.heap.size) := ⟨Row.new_ hG.symm rfl, Below.alloc (Below.refl _ _) (Nat.le_refl _) _, hs, hB⟩
  have HY := Shh.mk hy
  have HX := Shh.mk hx
  have HG := Shh.mk hG
  obtain ⟨A, c, rfl, _, _⟩ := hs.form
  clear hs hB hx hy hG
  go_enter Try.func3, Try.ntmps3
  go_wp2_with (go_at_call 5; refine (live_any _).mono ?_)
  unfold TrueIs
  rintro e w1 ⟨rfl, b1⟩
  have F1 : Shh (Row w1 G 24 [.int .u32 xc, .bool xs, .int .i64 xn, .int .i64 xwd, .int .i64 xp, .int .i64 xl] ∧ Below w.heap.size w w1 ∧ Sl w1 B (.slice A bs.length c) bs) := ⟨HW.out.1.go b1, Below.chain HW.out.2.1 b1, HW.out.2.2.1.below ((Below.chain HW.out.2.1 b1).mono HW.out.2.2.2)⟩
  clear b1
  go_wp2
  rw [HG.out]
  refine wp_region_held_drew (S := fun w' => Row w' G 24 [.int .u32 xc, .bool xs, .int .i64 xn, .int .i64 xwd, .int .i64 xp, .int .i64 xl]) (by kernel_rfl) (F1.out.1.drew) (fun hS => ?_)
  clear hS
  generalize hW : World.drew _ = W
  have F2 : Shh (Row W G 24 [.int .u32 xc, .bool xs, .int .i64 xn, .int .i64 xwd, .int .i64 xp, .int .i64 xl] ∧ Below w.heap.size w W ∧ Sl W B (.slice A bs.length c) bs ∧ B ≤ W.heap.size) := by
    rw [← hW]
    exact ⟨F1.out.1.drew, F1.out.2.1.drew, F1.out.2.2.drew, Nat.le_trans HW.out.2.2.2 F1.out.2.1.size⟩
  clear F1 hW HW
  have rW := F2.out.1
  have bw := F2.out.2.1
  have sW := F2.out.2.2.1
  have zW := F2.out.2.2.2
  clear F2
  refine held_value 0 _ _ (some 16) (.int .u32 (k : Int)) (by kernel_rfl) (by rfl) (by kernel_rfl) (fun w hS => by first | kernel_rfl | go_simp) (fun _ _ _ _ h => h) (rW) ?_
  simp only [Act.put, List.setIfInBounds_toArray, List.set_cons_zero, List.set_cons_succ]
  refine held_value 5 _ _ (some 21) (.int .i64 0) (by kernel_rfl) (by rfl) (by kernel_rfl) (fun w hS => by first | kernel_rfl | go_simp) (fun _ _ _ _ h => h) (rW) ?_
  simp only [Act.put, List.setIfInBounds_toArray, List.set_cons_zero, List.set_cons_succ]
  refine held_load 2 24 (.tmp 4) (some 18) (by kernel_rfl) (by rfl) (by kernel_rfl) G 0 (by kernel_rfl) ([.int .u32 xc, .bool xs, .int .i64 xn, .int .i64 xwd, .int .i64 xp, .int .i64 xl]) _ (fun w hS => Row.range hS) Try.underlying24 rfl (info_ots) (fun _ _ _ _ h => h) (rW) ?_
  simp only [Act.put, List.setIfInBounds_toArray, List.set_cons_zero, List.set_cons_succ]
  refine held_one 1 (by kernel_rfl) ?_
  refine step_call 1 _ _ (some 17) 6 #[.int .u32 (k : Int)] (by rfl) (by kernel_rfl) (by first | kernel_rfl | go_simp) ?_
  refine (hset W).mono ?_
  rintro e Y1 ⟨rfl, bx⟩
  have bx : Below W.heap.size W Y1 := bx
  have b_W := bx
  have m_Y1 : W.heap.size ≤ Y1.heap.size := bx.size
  clear bx
  refine ⟨_, rfl, (rW.go b_W), ?_⟩
  simp only [Act.put, List.setIfInBounds_toArray, List.set_cons_zero, List.set_cons_succ]
  refine held_one 3 (by kernel_rfl) ?_
  refine step_value 3 _ _ (some 19) (.slice (some ⟨Y1.heap.size, 0, none⟩) 2 2) (Y1.alloc (.cells #[.int .u32 yc, .bool ys, .int .i64 yn, .int .i64 ywd, .int .i64 yp, .int .i64 yl, .int .u32 xc, .bool xs, .int .i64 xn, .int .i64 xwd, .int .i64 xp, .int .i64 xl] 24)) (by rfl) (by kernel_rfl) (by first | kernel_rfl | go_simp) (rW.go b_W |>.alloc _) ?_
  simp only [Act.put, List.setIfInBounds_toArray, List.set_cons_zero, List.set_cons_succ]
  have bx : Below Y1.heap.size Y1 (Y1.alloc (.cells #[.int .u32 yc, .bool ys, .int .i64 yn, .int .i64 ywd, .int .i64 yp, .int .i64 yl, .int .u32 xc, .bool xs, .int .i64 xn, .int .i64 xwd, .int .i64 xp, .int .i64 xl] 24)) := Below.alloc (Below.refl _ _) (Nat.le_refl _) _
  have rS : Row (Y1.alloc (.cells #[.int .u32 yc, .bool ys, .int .i64 yn, .int .i64 ywd, .int .i64 yp, .int .i64 yl, .int .u32 xc, .bool xs, .int .i64 xn, .int .i64 xwd, .int .i64 xp, .int .i64 xl] 24)) Y1.heap.size 24 [.int .u32 yc, .bool ys, .int .i64 yn, .int .i64 ywd, .int .i64 yp, .int .i64 yl, .int .u32 xc, .bool xs, .int .i64 xn, .int .i64 xwd, .int .i64 xp, .int .i64 xl] := Row.new_ rfl rfl
  have z_rS := asz Y1 (.cells #[.int .u32 yc, .bool ys, .int .i64 yn, .int .i64 ywd, .int .i64 yp, .int .i64 yl, .int .u32 xc, .bool xs, .int .i64 xn, .int .i64 xwd, .int .i64 xp, .int .i64 xl] 24)
  generalize Y1.alloc (.cells #[.int .u32 yc, .bool ys, .int .i64 yn, .int .i64 ywd, .int .i64 yp, .int .i64 yl, .int .u32 xc, .bool xs, .int .i64 xn, .int .i64 xwd, .int .i64 xp, .int .i64 xl] 24) = Y2 at *
  replace b_W := Below.chain b_W bx
  have b_Y1 := bx
  have m_Y2 : Y1.heap.size ≤ Y2.heap.size := bx.size
  clear bx
  refine held_value 4 _ _ (some 20) (.int .i64 2) (by kernel_rfl) (by rfl) (by kernel_rfl) (fun w hS => by first | kernel_rfl | go_simp) (fun _ _ _ _ h => h) ((rW.go b_W)) ?_
  simp only [Act.put, List.setIfInBounds_toArray, List.set_cons_zero, List.set_cons_succ]
  refine wpAnyH_done (by kernel_rfl) ?_ _
  generalize hgS : Y1.heap.size = gS at *
  have F := Shh.mk (show Row Y2 gS 24 [.int .u32 yc, .bool ys, .int .i64 yn, .int .i64 ywd, .int .i64 yp, .int .i64 yl, .int .u32 xc, .bool xs, .int .i64 xn, .int .i64 xwd, .int .i64 xp, .int .i64 xl] ∧ Below w.heap.size w Y2 ∧ Sl Y2 B (.slice A bs.length c) bs ∧ B ≤ Y2.heap.size from ⟨rS, Below.chain bw b_W, sW.below (b_W.mono zW), Nat.le_trans zW b_W.size⟩)
  clear m_Y2 b_Y1 z_rS rS m_Y1 b_W rW bw sW zW hgS
  generalize Y2 = Y at *
  go_wp2
  go_loopw [21] (fun i wr => ∃ k : Nat, k ≤ 2 ∧ i = .int .i64 k ∧ Shh (Below Y.heap.size Y wr)) (fun i _ => 2 - (intOf i).toNat)
  case atStart => exact ⟨0, by omega, rfl, ⟨Below.refl _ _⟩⟩
  case round =>
    obtain ⟨q, hq, rfl, HB⟩ := hrel
    by_cases hq0 : q = 0
    · subst hq0
      obtain ⟨H, hH⟩ : ∃ H, Shh (H = wr.heap.size) := ⟨_, ⟨rfl⟩⟩
      have hr0 : wr.rangeAt gS 0 [.int .u32 yc, .bool ys, .int .i64 yn, .int .i64 ywd, .int .i64 yp, .int .i64 yl] := Row.mid (F.out.1.go HB.out) 0 6
      have HR := Shh.mk hr0
      clear hr0
      go_wp2_with (first | refine wpList_load_mid rfl 24 (.tmp 23) rfl gS 0 rfl [.int .u32 yc, .bool ys, .int .i64 yn, .int .i64 ywd, .int .i64 yp, .int .i64 yl] _ HR.out Try.underlying24 rfl info_ots ?_ | refine wpList_store_any rfl 24 (.tmp 8) (.tmp 24) rfl H (by rw [hH.out]; rfl) [.int .u32 yc, .bool ys, .int .i64 yn, .int .i64 ywd, .int .i64 yp, .int .i64 yl] rfl 24 _ (Row.new_ hH.out rfl) info_ots rfl oneCell6 ?_)
      intro Z hr bt _
      have bb : Below wr.heap.size wr Z := (Below.alloc (Below.refl _ _) (Nat.le_refl _) _).trans (bt.under (by have := hH.out; first | omega | (simp only [asz]; omega)) (by have := hH.out; omega))
      have F2 : Shh (Row Z H 24 [.int .u32 yc, .bool ys, .int .i64 yn, .int .i64 ywd, .int .i64 yp, .int .i64 yl] ∧ Below Y.heap.size Y Z) := ⟨hr, Below.chain HB.out bb⟩
      rw [← hH.out]
      clear hr bt bb hH HR HB
      have hsl := fun (W : World) (b : Below Y.heap.size Y W) => (⟨F.out.2.2.1.below (b.mono F.out.2.2.2), Nat.le_trans F.out.2.2.2 b.size⟩ : Sl W B (.slice A bs.length c) bs ∧ B ≤ W.heap.size)
      have HSL := Shh.mk hsl
      clear hsl
      go_wp2_with (first | refine wl_loadW 24 (.tmp 8) rfl H rfl 24 [.int .u32 yc, .bool ys, .int .i64 yn, .int .i64 ywd, .int .i64 yp, .int .i64 yl] _ rfl F2.out.1 Try.underlying24 rfl info_ots ?_ | (go_at_call 7; refine (HY.out.dig B _ _ (HSL.out _ F2.out.2).1 (HSL.out _ F2.out.2).2).mono ?_))
      rintro e w3 ⟨v9, rfl, s9, b3⟩
      have F3 : Shh (Row w3 H 24 [.int .u32 yc, .bool ys, .int .i64 yn, .int .i64 ywd, .int .i64 yp, .int .i64 yl] ∧ Below Y.heap.size Y w3 ∧ SI w3 w3.heap.size v9 Dy) := ⟨F2.out.1.go b3, Below.chain F2.out.2 b3, s9⟩
      obtain ⟨a9, c9, rfl, _, _⟩ := s9.form
      clear F2 b3 s9
      go_wp2_with (first | refine wl_loadW 24 (.tmp 8) rfl H rfl 24 [.int .u32 yc, .bool ys, .int .i64 yn, .int .i64 ywd, .int .i64 yp, .int .i64 yl] _ rfl F3.out.1 Try.underlying24 rfl info_ots ?_ | (go_at_call 8; refine (HY.out.may B _ _ (HSL.out _ F3.out.2.1).1).mono ?_))
      unfold OldIs
      rintro e w4 ⟨rfl, b4⟩
      have F4 : Shh (Row w4 H 24 [.int .u32 yc, .bool ys, .int .i64 yn, .int .i64 ywd, .int .i64 yp, .int .i64 yl] ∧ Below Y.heap.size Y w4 ∧ SI w4 w4.heap.size (.slice a9 Dy.length c9) Dy) := ⟨F3.out.1.go b4, Below.chain F3.out.2.1 b4, F3.out.2.2.go b4⟩
      clear F3 b4
      rcases HY.out.len with ⟨hE, hlp, hl3⟩ | ⟨hE, hD⟩
      · have HEZ := Shh.mk hE
        subst hE
        go_wp2_with (first | refine wl_loadW 24 (.tmp 8) rfl H rfl 24 [.int .u32 yc, .bool ys, .int .i64 yn, .int .i64 ywd, .int .i64 yp, .int .i64 yl] _ rfl F4.out.1 Try.underlying24 rfl info_ots ?_ | (go_at_call 9; refine (HY.out.ref rfl B _ _ (HSL.out _ F4.out.2.1).1 (HSL.out _ F4.out.2.1).2).mono ?_))
        unfold SeeI
        rintro e w5 ⟨v12, rfl, s12, b5⟩
        have F5 : Shh (Row w5 H 24 [.int .u32 yc, .bool ys, .int .i64 yn, .int .i64 ywd, .int .i64 yp, .int .i64 yl] ∧ Below Y.heap.size Y w5 ∧ SI w5 w5.heap.size (.slice a9 Dy.length c9) Dy ∧ SI w5 w5.heap.size v12 Dy) := ⟨F4.out.1.go b5, Below.chain F4.out.2.1 b5, F4.out.2.2.go b5, s12⟩
        obtain ⟨a12, c12, rfl, _, _⟩ := s12.form
        have c4 : w5.cell? ⟨H, 4, none⟩ = some (.int .i64 yp) := F5.out.1.cell 4
        have q1 : ((Dy.length : Int) != yp) = false := by simp [hlp]
        have q2 : ((Dy.length : Int) != (Dy.length : Int)) = false := by simp
        have HLP := Shh.mk hlp
        clear F4 b5 s12 hlp
        go_wp2
        go_loopw [65] (fun i wr => ∃ j : Nat, j ≤ Dy.length ∧ i = .int .i64 j ∧ Shh (Below w5.heap.size w5 wr)) (fun i _ => Dy.length - (intOf i).toNat)
        case atStart => exact ⟨0, Nat.zero_le _, rfl, ⟨Below.refl _ _⟩⟩
        case round =>
          obtain ⟨j, hj, rfl, HJ⟩ := hrel
          by_cases hjl : j < Dy.length
          · obtain ⟨g1, rfl, _, _, hc1⟩ := (F5.out.2.2.1.go HJ.out).at_ (by omega)
            obtain ⟨g2, rfl, _, _, hc2⟩ := (F5.out.2.2.2.go HJ.out).at_ (by omega)
            have d1 := hc1 j hjl
            have d2 := hc2 j hjl
            obtain ⟨d, hd⟩ : ∃ d, d = Dy[j] := ⟨_, rfl⟩
            rw [← hd] at d1 d2
            have q3 : ((d : Int) != (d : Int)) = false := by simp
            have HJ2 : Shh (Below w5.heap.size w5 wr.drew) := ⟨HJ.out.drew⟩
            clear hc1 hc2 hd HJ
            go_wp2
            go_region
            go_wp2
            go_roundw
            case rel => exact ⟨j + 1, by omega, by go_num, HJ2⟩
            case measure => simp [intOf]; omega
          · have HB2 : Shh (Below Y.heap.size Y wr) := ⟨Below.chain F5.out.2.1 HJ.out⟩
            clear HJ F5 c4
            go_wp2
            go_roundw
            case rel => exact ⟨1, by omega, by go_num, HB2⟩
            case measure => simp [intOf]
      · have HD : Shh (Below Y.heap.size Y w4) := ⟨F4.out.2.1⟩
        have q0 : (Ey != 0) = true := by simpa using hE
        have q1 : (Ey != Ey) = false := by simp
        have q2 : (Dy.length : Int) = 0 := by rw [hD]; rfl
        rw [hD]
        clear F4 hD
        go_wp2
        go_roundw
        case rel => exact ⟨1, by omega, by go_num, HD⟩
        case measure => simp [intOf]
    by_cases hq1 : q = 1
    · subst hq1
      obtain ⟨H, hH⟩ : ∃ H, Shh (H = wr.heap.size) := ⟨_, ⟨rfl⟩⟩
      have hr0 : wr.rangeAt gS 6 [.int .u32 xc, .bool xs, .int .i64 xn, .int .i64 xwd, .int .i64 xp, .int .i64 xl] := Row.mid (F.out.1.go HB.out) 6 6
      have HR := Shh.mk hr0
      clear hr0
      go_wp2_with (first | refine wpList_load_mid rfl 24 (.tmp 23) rfl gS 6 rfl [.int .u32 xc, .bool xs, .int .i64 xn, .int .i64 xwd, .int .i64 xp, .int .i64 xl] _ HR.out Try.underlying24 rfl info_ots ?_ | refine wpList_store_any rfl 24 (.tmp 8) (.tmp 24) rfl H (by rw [hH.out]; rfl) [.int .u32 xc, .bool xs, .int .i64 xn, .int .i64 xwd, .int .i64 xp, .int .i64 xl] rfl 24 _ (Row.new_ hH.out rfl) info_ots rfl oneCell6 ?_)
      intro Z hr bt _
      have bb : Below wr.heap.size wr Z := (Below.alloc (Below.refl _ _) (Nat.le_refl _) _).trans (bt.under (by have := hH.out; first | omega | (simp only [asz]; omega)) (by have := hH.out; omega))
      have F2 : Shh (Row Z H 24 [.int .u32 xc, .bool xs, .int .i64 xn, .int .i64 xwd, .int .i64 xp, .int .i64 xl] ∧ Below Y.heap.size Y Z) := ⟨hr, Below.chain HB.out bb⟩
      rw [← hH.out]
      clear hr bt bb hH HR HB
      have hsl := fun (W : World) (b : Below Y.heap.size Y W) => (⟨F.out.2.2.1.below (b.mono F.out.2.2.2), Nat.le_trans F.out.2.2.2 b.size⟩ : Sl W B (.slice A bs.length c) bs ∧ B ≤ W.heap.size)
      have HSL := Shh.mk hsl
      clear hsl
      go_wp2_with (first | refine wl_loadW 24 (.tmp 8) rfl H rfl 24 [.int .u32 xc, .bool xs, .int .i64 xn, .int .i64 xwd, .int .i64 xp, .int .i64 xl] _ rfl F2.out.1 Try.underlying24 rfl info_ots ?_ | (go_at_call 7; refine (HX.out.dig B _ _ (HSL.out _ F2.out.2).1 (HSL.out _ F2.out.2).2).mono ?_))
      rintro e w3 ⟨v9, rfl, s9, b3⟩
      have F3 : Shh (Row w3 H 24 [.int .u32 xc, .bool xs, .int .i64 xn, .int .i64 xwd, .int .i64 xp, .int .i64 xl] ∧ Below Y.heap.size Y w3 ∧ SI w3 w3.heap.size v9 Dx) := ⟨F2.out.1.go b3, Below.chain F2.out.2 b3, s9⟩
      obtain ⟨a9, c9, rfl, _, _⟩ := s9.form
      clear F2 b3 s9
      go_wp2_with (first | refine wl_loadW 24 (.tmp 8) rfl H rfl 24 [.int .u32 xc, .bool xs, .int .i64 xn, .int .i64 xwd, .int .i64 xp, .int .i64 xl] _ rfl F3.out.1 Try.underlying24 rfl info_ots ?_ | (go_at_call 8; refine (HX.out.may B _ _ (HSL.out _ F3.out.2.1).1).mono ?_))
      unfold OldIs
      rintro e w4 ⟨rfl, b4⟩
      have F4 : Shh (Row w4 H 24 [.int .u32 xc, .bool xs, .int .i64 xn, .int .i64 xwd, .int .i64 xp, .int .i64 xl] ∧ Below Y.heap.size Y w4 ∧ SI w4 w4.heap.size (.slice a9 Dx.length c9) Dx) := ⟨F3.out.1.go b4, Below.chain F3.out.2.1 b4, F3.out.2.2.go b4⟩
      clear F3 b4
      rcases HX.out.len with ⟨hE, hlp, hl3⟩ | ⟨hE, hD⟩
      · have HEZ := Shh.mk hE
        subst hE
        go_wp2_with (first | refine wl_loadW 24 (.tmp 8) rfl H rfl 24 [.int .u32 xc, .bool xs, .int .i64 xn, .int .i64 xwd, .int .i64 xp, .int .i64 xl] _ rfl F4.out.1 Try.underlying24 rfl info_ots ?_ | (go_at_call 9; refine (HX.out.ref rfl B _ _ (HSL.out _ F4.out.2.1).1 (HSL.out _ F4.out.2.1).2).mono ?_))
        unfold SeeI
        rintro e w5 ⟨v12, rfl, s12, b5⟩
        have F5 : Shh (Row w5 H 24 [.int .u32 xc, .bool xs, .int .i64 xn, .int .i64 xwd, .int .i64 xp, .int .i64 xl] ∧ Below Y.heap.size Y w5 ∧ SI w5 w5.heap.size (.slice a9 Dx.length c9) Dx ∧ SI w5 w5.heap.size v12 Dx) := ⟨F4.out.1.go b5, Below.chain F4.out.2.1 b5, F4.out.2.2.go b5, s12⟩
        obtain ⟨a12, c12, rfl, _, _⟩ := s12.form
        have c4 : w5.cell? ⟨H, 4, none⟩ = some (.int .i64 xp) := F5.out.1.cell 4
        have q1 : ((Dx.length : Int) != xp) = false := by simp [hlp]
        have q2 : ((Dx.length : Int) != (Dx.length : Int)) = false := by simp
        have HLP := Shh.mk hlp
        clear F4 b5 s12 hlp
        go_wp2
        go_loopw [65] (fun i wr => ∃ j : Nat, j ≤ Dx.length ∧ i = .int .i64 j ∧ Shh (Below w5.heap.size w5 wr)) (fun i _ => Dx.length - (intOf i).toNat)
        case atStart => exact ⟨0, Nat.zero_le _, rfl, ⟨Below.refl _ _⟩⟩
        case round =>
          obtain ⟨j, hj, rfl, HJ⟩ := hrel
          by_cases hjl : j < Dx.length
          · obtain ⟨g1, rfl, _, _, hc1⟩ := (F5.out.2.2.1.go HJ.out).at_ (by omega)
            obtain ⟨g2, rfl, _, _, hc2⟩ := (F5.out.2.2.2.go HJ.out).at_ (by omega)
            have d1 := hc1 j hjl
            have d2 := hc2 j hjl
            obtain ⟨d, hd⟩ : ∃ d, d = Dx[j] := ⟨_, rfl⟩
            rw [← hd] at d1 d2
            have q3 : ((d : Int) != (d : Int)) = false := by simp
            have HJ2 : Shh (Below w5.heap.size w5 wr.drew) := ⟨HJ.out.drew⟩
            clear hc1 hc2 hd HJ
            go_wp2
            go_region
            go_wp2
            go_roundw
            case rel => exact ⟨j + 1, by omega, by go_num, HJ2⟩
            case measure => simp [intOf]; omega
          · have HB2 : Shh (Below Y.heap.size Y wr) := ⟨Below.chain F5.out.2.1 HJ.out⟩
            clear HJ F5 c4
            go_wp2
            go_roundw
            case rel => exact ⟨2, by omega, by go_num, HB2⟩
            case measure => simp [intOf]
      · have HD : Shh (Below Y.heap.size Y w4) := ⟨F4.out.2.1⟩
        have q0 : (Ex != 0) = true := by simpa using hE
        have q1 : (Ex != Ex) = false := by simp
        have q2 : (Dx.length : Int) = 0 := by rw [hD]; rfl
        rw [hD]
        clear F4 hD
        go_wp2
        go_roundw
        case rel => exact ⟨2, by omega, by go_num, HD⟩
        case measure => simp [intOf]
    have hq2 : q = 2 := by omega
    subst hq2
    have HF : Shh (Below w.heap.size w wr) := ⟨Below.chain F.out.2.1 HB.out⟩
    clear HB F
    go_wp2
    go_ret
    exact ⟨rfl, HF.out⟩
theorem digits_law (k : Nat) (hk : k < 4294967296) (xc : Int) (xs : Bool) (xn xwd xp xl : Int) (h : S6.wf ⟨xc, xs, xn, xwd, xp, xl⟩) (B : Nat) (v : Value) (bs : List UInt8) (w : World) (hs : Sl w B v bs) (hB : B ≤ w.heap.size) :
    Calls Try.prog 3 #[.int .u32 (k : Int), .agg #[.int .u32 xc, .bool xs, .int .i64 xn, .int .i64 xwd, .int .i64 xp, .int .i64 xl], v] w (TrueIs w) :=
  digits_law_of k _ _ _ _ _ _ xc xs xn xwd xp xl bs _ _ _ _ (fun W => set_any k W) (pack bs _ _ _ _ _ _ (sX_wf k hk)) (pack bs xc xs xn xwd xp xl h) B v w hs hB
end Go.Proofs.Ytcbcgegppnojmaa
